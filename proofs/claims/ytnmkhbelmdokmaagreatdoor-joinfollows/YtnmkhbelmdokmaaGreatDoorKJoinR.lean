/- Texts laid as one. -/
import Derived.Test.YtnmkhbelmdokmaaGreatDoorKJoin
import Derived.Deep.CutBlock
/- Contracts of the reference's slash, Key and Link of layer 5. -/
namespace Go.Proofs.YtnmkhbelmdokmaaGreatDoor
open Go.RowKit
set_option maxHeartbeats 1000000 in
theorem RSlash5_any (l : List UInt8) (w : World) :
    Calls Tryz.prog 52 #[.string (str l)] w fun e w' => e = .returned (.bool (Url.slashed l)) ∧ w' = w := by
  cases l with
  | nil =>
    have he := empty_is (l := []) rfl
    go_enter Tryz.func52, Tryz.ntmps52
    go_wp2
    go_ret
    exact ⟨rfl, rfl⟩
  | cons x t =>
    have he := empty_isnt (l := x :: t) (by simp)
    have hat := str_first x t
    have hs1 : (str (x :: t)).size = t.length + 1 := str_size _
    go_enter Tryz.func52, Tryz.ntmps52
    go_wp2_with (go_at_call 38; refine (RIsSlash_any x _).mono ?_; rintro e w4 ⟨rfl, hw4⟩; rw [hw4]; clear hw4)
    go_ret
    exact ⟨rfl, rfl⟩
set_option maxHeartbeats 2000000 in
set_option maxRecDepth 100000 in
theorem RKey5_any (u : Url.U) (w : World) (hu : Fits u) :
    Calls Tryz.prog 24 #[uVal u] w fun e w' => e = .returned (.string (str (Url.key u))) ∧ Below w.heap.size w w' := by
  have hb0 : Below w.heap.size w (w.alloc (.cells (uCells u) 25)) := (Below.refl _ w).alloc (Nat.le_refl _) _
  have hU0 : UAt (w.alloc (.cells (uCells u) 25)) w.heap.size u := heap_alloc_last _ _
  have strc : ∀ W : World, Calls Tryz.prog 13 #[uVal (Url.bare u)] W fun e w' => e = .returned (.string (str (Url.key u))) ∧ Below W.heap.size W w' := fun W => RString_any (Url.bare u) W (bare_fits hu)
  unfold uVal
  unfold uCells at hb0 hU0 ⊢
  go_enter Tryz.func24, Tryz.ntmps24
  go_upto_region 1 with fail
  generalize w.alloc (.cells #[.string (str u.sch), .string (str u.host), .int .i64 u.port, .string (str u.path), .string (str u.query), .string (str u.frag), .bool u.hq, .bool u.hf] 25) = w1 at hb0 hU0 ⊢
  have f7 := hU0.frozen 7
  have f5 := (hU0.hf false).frozen 5
  have x7 := hU0.cell 7
  have x5 := (hU0.hf false).cell 5
  simp only [uCells] at x7 x5
  go_upto_region 2 with fail
  have hU2 : UAt ((w1.setCell ⟨w.heap.size, 7, none⟩ (.bool false)).setCell ⟨w.heap.size, 5, none⟩ (.string ⟨#[]⟩)) w.heap.size (Url.bare u) := (hU0.hf false).frag []
  have hb2 : Below w.heap.size w ((w1.setCell ⟨w.heap.size, 7, none⟩ (.bool false)).setCell ⟨w.heap.size, 5, none⟩ (.string ⟨#[]⟩)) := (hb0.setCell (Nat.le_refl _) _).setCell (Nat.le_refl _) _
  generalize (w1.setCell ⟨w.heap.size, 7, none⟩ (.bool false)).setCell ⟨w.heap.size, 5, none⟩ (.string ⟨#[]⟩) = w2 at hU2 hb2 ⊢
  go_wp2_with (first
    | ((with_reducible show wpList _ _ _ ({ dst := _, op := Op.load 25 (Operand.tmp 1), type := _, pos := _, after := _, guard := _ } :: _) _ _); refine wpList_load_Ug _ rfl (by rfl) (w.heap.size) (Url.bare u) rfl hU2 ?_)
    | (go_at_call 13; refine (strc _).mono ?_; rintro e w3 ⟨rfl, hb3⟩))
  go_ret
  exact ⟨rfl, bel hb2 hb3⟩
set_option maxHeartbeats 4000000 in
set_option maxRecDepth 100000 in
theorem RLink_bad1 (b u : Url.U) (w : World) (fb : Fits b) (fu : Fits u) (zb : (Url.str b).length ≤ 1000000) (_zu : (Url.str u).length ≤ 1000000) (h1 : Url.may b = false) :
    Calls Tryz.prog 27 #[uVal b, uVal u] w fun e w' => e = .returned (.string (str (Url.str u))) ∧ Below w.heap.size w w' := by
  have hzu := (zero_of_info zeroURL).1
  have hB := BU.start w b u
  have strc : ∀ W : World, Calls Tryz.prog 13 #[uVal u] W fun e w' => e = .returned (.string (str (Url.str u))) ∧ Below W.heap.size W w' := fun W => RString_any u W fu
  have rorg : ∀ W : World, Calls Tryz.prog 13 #[uVal (placeU u)] W fun e w' => e = .returned (.string (str (Url.origin u))) ∧ Below W.heap.size W w' := fun W => RString_any (placeU u) W (placeU_fits fu)
  unfold uVal at hzu
  unfold uVal uCells at rorg
  unfold uVal
  unfold uCells at hzu hB ⊢
  go_enter Tryz.func27, Tryz.ntmps27
  go_upto_region 1 with fail
  generalize (w.alloc (.cells #[.string (str b.sch), .string (str b.host), .int .i64 b.port, .string (str b.path), .string (str b.query), .string (str b.frag), .bool b.hq, .bool b.hf] 25)).alloc (.cells #[.string (str u.sch), .string (str u.host), .int .i64 u.port, .string (str u.path), .string (str u.query), .string (str u.frag), .bool u.hq, .bool u.hf] 25) = w0 at hB ⊢
  go_upto_region 2 with (first
    | ((with_reducible show wpList _ _ _ ({ dst := _, op := Op.load 25 (Operand.tmp 3), type := _, pos := _, after := _, guard := _ } :: _) _ _); refine wpList_load_Ug _ rfl (by rfl) (w.heap.size + 1) u rfl hB.u_ ?_)
    | (go_at_call 13; refine (strc _).mono ?_; rintro e w1 ⟨rfl, hb1⟩; replace hB := hB.step hb1; clear hb1; have a0 := hB.b_.cell 0; have a1 := hB.b_.cell 1; have a2 := hB.b_.cell 2; have c0 := hB.u_.cell 0; have c1 := hB.u_.cell 1; have c2 := hB.u_.cell 2; have c3 := hB.u_.cell 3; simp only [uCells] at a0 a1 a2 c0 c1 c2 c3))
  go_upto_region 3 with (go_at_call 13; refine (rorg _).mono ?_; (try clear a0 a1 a2 c0 c1 c2 c3); rintro e w1 ⟨rfl, hb1⟩; replace hB := hB.step hb1; clear hb1; have a0 := hB.b_.cell 0; have a1 := hB.b_.cell 1; have a2 := hB.b_.cell 2; have c0 := hB.u_.cell 0; have c1 := hB.u_.cell 1; have c2 := hB.u_.cell 2; have c3 := hB.u_.cell 3; simp only [uCells] at a0 a1 a2 c0 c1 c2 c3)
  go_wp2_with (first
    | ((with_reducible show wpList _ _ _ ({ dst := _, op := Op.load 25 (Operand.tmp 2), type := _, pos := _, after := _, guard := _ } :: _) _ _); refine wpList_load_Ug _ rfl (by rfl) (w.heap.size) b rfl hB.b_ ?_)
    | ((with_reducible show wpList _ _ _ ({ dst := _, op := Op.load 25 (Operand.tmp 3), type := _, pos := _, after := _, guard := _ } :: _) _ _); refine wpList_load_Ug _ rfl (by rfl) (w.heap.size + 1) u rfl hB.u_ ?_)
    | (go_at_call 30; refine (RMay5_any _ _ (by assumption) (by assumption)).mono ?_; (try clear a0 a1 a2 c0 c1 c2 c3); rintro e w1 ⟨rfl, hb1⟩; replace hB := hB.step hb1; clear hb1; have a0 := hB.b_.cell 0; have a1 := hB.b_.cell 1; have a2 := hB.b_.cell 2; have c0 := hB.u_.cell 0; have c1 := hB.u_.cell 1; have c2 := hB.u_.cell 2; have c3 := hB.u_.cell 3; simp only [uCells] at a0 a1 a2 c0 c1 c2 c3))
  go_ret
  exact ⟨rfl, hB.bel⟩
set_option maxHeartbeats 4000000 in
set_option maxRecDepth 100000 in
theorem RLink_bad2 (b u : Url.U) (w : World) (fb : Fits b) (fu : Fits u) (zb : (Url.str b).length ≤ 1000000) (zu : (Url.str u).length ≤ 1000000) (h1 : Url.may b = true) (h2 : Url.may u = false) :
    Calls Tryz.prog 27 #[uVal b, uVal u] w fun e w' => e = .returned (.string (str (Url.str u))) ∧ Below w.heap.size w w' := by
  have hzu := (zero_of_info zeroURL).1
  have hB := BU.start w b u
  have strc : ∀ W : World, Calls Tryz.prog 13 #[uVal u] W fun e w' => e = .returned (.string (str (Url.str u))) ∧ Below W.heap.size W w' := fun W => RString_any u W fu
  have rorg : ∀ W : World, Calls Tryz.prog 13 #[uVal (placeU u)] W fun e w' => e = .returned (.string (str (Url.origin u))) ∧ Below W.heap.size W w' := fun W => RString_any (placeU u) W (placeU_fits fu)
  unfold uVal at hzu
  unfold uVal uCells at rorg
  unfold uVal
  unfold uCells at hzu hB ⊢
  go_enter Tryz.func27, Tryz.ntmps27
  go_upto_region 1 with fail
  generalize (w.alloc (.cells #[.string (str b.sch), .string (str b.host), .int .i64 b.port, .string (str b.path), .string (str b.query), .string (str b.frag), .bool b.hq, .bool b.hf] 25)).alloc (.cells #[.string (str u.sch), .string (str u.host), .int .i64 u.port, .string (str u.path), .string (str u.query), .string (str u.frag), .bool u.hq, .bool u.hf] 25) = w0 at hB ⊢
  go_upto_region 2 with (first
    | ((with_reducible show wpList _ _ _ ({ dst := _, op := Op.load 25 (Operand.tmp 3), type := _, pos := _, after := _, guard := _ } :: _) _ _); refine wpList_load_Ug _ rfl (by rfl) (w.heap.size + 1) u rfl hB.u_ ?_)
    | (go_at_call 13; refine (strc _).mono ?_; rintro e w1 ⟨rfl, hb1⟩; replace hB := hB.step hb1; clear hb1; have a0 := hB.b_.cell 0; have a1 := hB.b_.cell 1; have a2 := hB.b_.cell 2; have c0 := hB.u_.cell 0; have c1 := hB.u_.cell 1; have c2 := hB.u_.cell 2; have c3 := hB.u_.cell 3; simp only [uCells] at a0 a1 a2 c0 c1 c2 c3))
  go_upto_region 3 with (go_at_call 13; refine (rorg _).mono ?_; (try clear a0 a1 a2 c0 c1 c2 c3); rintro e w1 ⟨rfl, hb1⟩; replace hB := hB.step hb1; clear hb1; have a0 := hB.b_.cell 0; have a1 := hB.b_.cell 1; have a2 := hB.b_.cell 2; have c0 := hB.u_.cell 0; have c1 := hB.u_.cell 1; have c2 := hB.u_.cell 2; have c3 := hB.u_.cell 3; simp only [uCells] at a0 a1 a2 c0 c1 c2 c3)
  go_wp2_with (first
    | ((with_reducible show wpList _ _ _ ({ dst := _, op := Op.load 25 (Operand.tmp 2), type := _, pos := _, after := _, guard := _ } :: _) _ _); refine wpList_load_Ug _ rfl (by rfl) (w.heap.size) b rfl hB.b_ ?_)
    | ((with_reducible show wpList _ _ _ ({ dst := _, op := Op.load 25 (Operand.tmp 3), type := _, pos := _, after := _, guard := _ } :: _) _ _); refine wpList_load_Ug _ rfl (by rfl) (w.heap.size + 1) u rfl hB.u_ ?_)
    | (go_at_call 30; refine (RMay5_any _ _ (by assumption) (by assumption)).mono ?_; (try clear a0 a1 a2 c0 c1 c2 c3); rintro e w1 ⟨rfl, hb1⟩; replace hB := hB.step hb1; clear hb1; have a0 := hB.b_.cell 0; have a1 := hB.b_.cell 1; have a2 := hB.b_.cell 2; have c0 := hB.u_.cell 0; have c1 := hB.u_.cell 1; have c2 := hB.u_.cell 2; have c3 := hB.u_.cell 3; simp only [uCells] at a0 a1 a2 c0 c1 c2 c3))
  go_ret
  exact ⟨rfl, hB.bel⟩
set_option maxHeartbeats 4000000 in
set_option maxRecDepth 100000 in
theorem RLink_else (b u : Url.U) (w : World) (fb : Fits b) (fu : Fits u) (zb : (Url.str b).length ≤ 1000000) (zu : (Url.str u).length ≤ 1000000) (h1 : Url.may b = true) (h2 : Url.may u = true) (h3 : ¬ b.sch = u.sch) :
    Calls Tryz.prog 27 #[uVal b, uVal u] w fun e w' => e = .returned (.string (str (Url.str u))) ∧ Below w.heap.size w w' := by
  have hzu := (zero_of_info zeroURL).1
  have hB := BU.start w b u
  have strc : ∀ W : World, Calls Tryz.prog 13 #[uVal u] W fun e w' => e = .returned (.string (str (Url.str u))) ∧ Below W.heap.size W w' := fun W => RString_any u W fu
  have rorg : ∀ W : World, Calls Tryz.prog 13 #[uVal (placeU u)] W fun e w' => e = .returned (.string (str (Url.origin u))) ∧ Below W.heap.size W w' := fun W => RString_any (placeU u) W (placeU_fits fu)
  have hsq : ((str b.sch).toList == (str u.sch).toList) = false := by rw [str_beq]; exact beq_eq_false_iff_ne.2 h3
  clear h3
  unfold uVal at hzu
  unfold uVal uCells at rorg
  unfold uVal
  unfold uCells at hzu hB ⊢
  go_enter Tryz.func27, Tryz.ntmps27
  go_upto_region 1 with fail
  generalize (w.alloc (.cells #[.string (str b.sch), .string (str b.host), .int .i64 b.port, .string (str b.path), .string (str b.query), .string (str b.frag), .bool b.hq, .bool b.hf] 25)).alloc (.cells #[.string (str u.sch), .string (str u.host), .int .i64 u.port, .string (str u.path), .string (str u.query), .string (str u.frag), .bool u.hq, .bool u.hf] 25) = w0 at hB ⊢
  go_upto_region 2 with (first
    | ((with_reducible show wpList _ _ _ ({ dst := _, op := Op.load 25 (Operand.tmp 3), type := _, pos := _, after := _, guard := _ } :: _) _ _); refine wpList_load_Ug _ rfl (by rfl) (w.heap.size + 1) u rfl hB.u_ ?_)
    | (go_at_call 13; refine (strc _).mono ?_; rintro e w1 ⟨rfl, hb1⟩; replace hB := hB.step hb1; clear hb1; have a0 := hB.b_.cell 0; have a1 := hB.b_.cell 1; have a2 := hB.b_.cell 2; have c0 := hB.u_.cell 0; have c1 := hB.u_.cell 1; have c2 := hB.u_.cell 2; have c3 := hB.u_.cell 3; simp only [uCells] at a0 a1 a2 c0 c1 c2 c3))
  go_upto_region 3 with (go_at_call 13; refine (rorg _).mono ?_; (try clear a0 a1 a2 c0 c1 c2 c3); rintro e w1 ⟨rfl, hb1⟩; replace hB := hB.step hb1; clear hb1; have a0 := hB.b_.cell 0; have a1 := hB.b_.cell 1; have a2 := hB.b_.cell 2; have c0 := hB.u_.cell 0; have c1 := hB.u_.cell 1; have c2 := hB.u_.cell 2; have c3 := hB.u_.cell 3; simp only [uCells] at a0 a1 a2 c0 c1 c2 c3)
  go_wp2_with (first
    | ((with_reducible show wpList _ _ _ ({ dst := _, op := Op.load 25 (Operand.tmp 2), type := _, pos := _, after := _, guard := _ } :: _) _ _); refine wpList_load_Ug _ rfl (by rfl) (w.heap.size) b rfl hB.b_ ?_)
    | ((with_reducible show wpList _ _ _ ({ dst := _, op := Op.load 25 (Operand.tmp 3), type := _, pos := _, after := _, guard := _ } :: _) _ _); refine wpList_load_Ug _ rfl (by rfl) (w.heap.size + 1) u rfl hB.u_ ?_)
    | (go_at_call 30; refine (RMay5_any _ _ (by assumption) (by assumption)).mono ?_; (try clear a0 a1 a2 c0 c1 c2 c3); rintro e w1 ⟨rfl, hb1⟩; replace hB := hB.step hb1; clear hb1; have a0 := hB.b_.cell 0; have a1 := hB.b_.cell 1; have a2 := hB.b_.cell 2; have c0 := hB.u_.cell 0; have c1 := hB.u_.cell 1; have c2 := hB.u_.cell 2; have c3 := hB.u_.cell 3; simp only [uCells] at a0 a1 a2 c0 c1 c2 c3))
  go_ret
  exact ⟨rfl, hB.bel⟩
set_option maxHeartbeats 4000000 in
set_option maxRecDepth 100000 in
theorem RLink_host (b u : Url.U) (w : World) (fb : Fits b) (fu : Fits u) (zb : (Url.str b).length ≤ 1000000) (zu : (Url.str u).length ≤ 1000000) (h1 : Url.may b = true) (h2 : Url.may u = true) (h3 : b.sch = u.sch) (h5 : ¬ b.host = u.host) :
    Calls Tryz.prog 27 #[uVal b, uVal u] w fun e w' => e = .returned (.string (str ((Url.str u).drop (u.sch.length + 1)))) ∧ Below w.heap.size w w' := by
  have hzu := (zero_of_info zeroURL).1
  have hB := BU.start w b u
  have strc : ∀ W : World, Calls Tryz.prog 13 #[uVal u] W fun e w' => e = .returned (.string (str (Url.str u))) ∧ Below W.heap.size W w' := fun W => RString_any u W fu
  have rorg : ∀ W : World, Calls Tryz.prog 13 #[uVal (placeU u)] W fun e w' => e = .returned (.string (str (Url.origin u))) ∧ Below W.heap.size W w' := fun W => RString_any (placeU u) W (placeU_fits fu)
  have hsq : ((str b.sch).toList == (str u.sch).toList) = true := by rw [str_beq]; exact beq_iff_eq.2 h3
  have hhq : ((str b.host).toList == (str u.host).toList) = false := by rw [str_beq]; exact beq_eq_false_iff_ne.2 h5
  have hx2 : (str (Url.str u)).extract (u.sch.length + 1) (Url.str u).length = str ((Url.str u).drop (u.sch.length + 1)) := str_from _ _
  have hss := str_size (Url.str u)
  have hsc := str_size u.sch
  have hle : (u.sch.length : Int) + 1 ≤ ((Url.str u).length : Int) := by
    have := congrArg List.length (Url.sch_drop u)
    rw [List.length_append, List.length_cons] at this
    omega
  have hle2 : u.sch.length + 1 ≤ (Url.str u).length := by omega
  have htn : ((u.sch.length : Int) + 1).toNat = u.sch.length + 1 := by omega
  clear h3 h5
  unfold uVal at hzu
  unfold uVal uCells at rorg
  unfold uVal
  unfold uCells at hzu hB ⊢
  go_enter Tryz.func27, Tryz.ntmps27
  go_upto_region 1 with fail
  generalize (w.alloc (.cells #[.string (str b.sch), .string (str b.host), .int .i64 b.port, .string (str b.path), .string (str b.query), .string (str b.frag), .bool b.hq, .bool b.hf] 25)).alloc (.cells #[.string (str u.sch), .string (str u.host), .int .i64 u.port, .string (str u.path), .string (str u.query), .string (str u.frag), .bool u.hq, .bool u.hf] 25) = w0 at hB ⊢
  go_upto_region 2 with (first
    | ((with_reducible show wpList _ _ _ ({ dst := _, op := Op.load 25 (Operand.tmp 3), type := _, pos := _, after := _, guard := _ } :: _) _ _); refine wpList_load_Ug _ rfl (by rfl) (w.heap.size + 1) u rfl hB.u_ ?_)
    | (go_at_call 13; refine (strc _).mono ?_; rintro e w1 ⟨rfl, hb1⟩; replace hB := hB.step hb1; clear hb1; have a0 := hB.b_.cell 0; have a1 := hB.b_.cell 1; have a2 := hB.b_.cell 2; have c0 := hB.u_.cell 0; have c1 := hB.u_.cell 1; have c2 := hB.u_.cell 2; have c3 := hB.u_.cell 3; simp only [uCells] at a0 a1 a2 c0 c1 c2 c3))
  go_upto_region 3 with (go_at_call 13; refine (rorg _).mono ?_; (try clear a0 a1 a2 c0 c1 c2 c3); rintro e w1 ⟨rfl, hb1⟩; replace hB := hB.step hb1; clear hb1; have a0 := hB.b_.cell 0; have a1 := hB.b_.cell 1; have a2 := hB.b_.cell 2; have c0 := hB.u_.cell 0; have c1 := hB.u_.cell 1; have c2 := hB.u_.cell 2; have c3 := hB.u_.cell 3; simp only [uCells] at a0 a1 a2 c0 c1 c2 c3)
  go_wp2_with (first
    | ((with_reducible show wpList _ _ _ ({ dst := _, op := Op.load 25 (Operand.tmp 2), type := _, pos := _, after := _, guard := _ } :: _) _ _); refine wpList_load_Ug _ rfl (by rfl) (w.heap.size) b rfl hB.b_ ?_)
    | ((with_reducible show wpList _ _ _ ({ dst := _, op := Op.load 25 (Operand.tmp 3), type := _, pos := _, after := _, guard := _ } :: _) _ _); refine wpList_load_Ug _ rfl (by rfl) (w.heap.size + 1) u rfl hB.u_ ?_)
    | (go_at_call 30; refine (RMay5_any _ _ (by assumption) (by assumption)).mono ?_; (try clear a0 a1 a2 c0 c1 c2 c3); rintro e w1 ⟨rfl, hb1⟩; replace hB := hB.step hb1; clear hb1; have a0 := hB.b_.cell 0; have a1 := hB.b_.cell 1; have a2 := hB.b_.cell 2; have c0 := hB.u_.cell 0; have c1 := hB.u_.cell 1; have c2 := hB.u_.cell 2; have c3 := hB.u_.cell 3; simp only [uCells] at a0 a1 a2 c0 c1 c2 c3))
  go_ret
  exact ⟨rfl, hB.bel⟩
set_option maxHeartbeats 4000000 in
set_option maxRecDepth 100000 in
theorem RLink_port (b u : Url.U) (w : World) (fb : Fits b) (fu : Fits u) (zb : (Url.str b).length ≤ 1000000) (zu : (Url.str u).length ≤ 1000000) (h1 : Url.may b = true) (h2 : Url.may u = true) (h3 : b.sch = u.sch) (h5 : b.host = u.host) (h6 : ¬ b.port = u.port) :
    Calls Tryz.prog 27 #[uVal b, uVal u] w fun e w' => e = .returned (.string (str ((Url.str u).drop (u.sch.length + 1)))) ∧ Below w.heap.size w w' := by
  have hzu := (zero_of_info zeroURL).1
  have hB := BU.start w b u
  have strc : ∀ W : World, Calls Tryz.prog 13 #[uVal u] W fun e w' => e = .returned (.string (str (Url.str u))) ∧ Below W.heap.size W w' := fun W => RString_any u W fu
  have rorg : ∀ W : World, Calls Tryz.prog 13 #[uVal (placeU u)] W fun e w' => e = .returned (.string (str (Url.origin u))) ∧ Below W.heap.size W w' := fun W => RString_any (placeU u) W (placeU_fits fu)
  have hsq : ((str b.sch).toList == (str u.sch).toList) = true := by rw [str_beq]; exact beq_iff_eq.2 h3
  have hhq : ((str b.host).toList == (str u.host).toList) = true := by rw [str_beq]; exact beq_iff_eq.2 h5
  have hpq : (b.port == u.port) = false := beq_eq_false_iff_ne.2 h6
  have hx2 : (str (Url.str u)).extract (u.sch.length + 1) (Url.str u).length = str ((Url.str u).drop (u.sch.length + 1)) := str_from _ _
  have hss := str_size (Url.str u)
  have hsc := str_size u.sch
  have hle : (u.sch.length : Int) + 1 ≤ ((Url.str u).length : Int) := by
    have := congrArg List.length (Url.sch_drop u)
    rw [List.length_append, List.length_cons] at this
    omega
  have hle2 : u.sch.length + 1 ≤ (Url.str u).length := by omega
  have htn : ((u.sch.length : Int) + 1).toNat = u.sch.length + 1 := by omega
  clear h3 h5 h6
  unfold uVal at hzu
  unfold uVal uCells at rorg
  unfold uVal
  unfold uCells at hzu hB ⊢
  go_enter Tryz.func27, Tryz.ntmps27
  go_upto_region 1 with fail
  generalize (w.alloc (.cells #[.string (str b.sch), .string (str b.host), .int .i64 b.port, .string (str b.path), .string (str b.query), .string (str b.frag), .bool b.hq, .bool b.hf] 25)).alloc (.cells #[.string (str u.sch), .string (str u.host), .int .i64 u.port, .string (str u.path), .string (str u.query), .string (str u.frag), .bool u.hq, .bool u.hf] 25) = w0 at hB ⊢
  go_upto_region 2 with (first
    | ((with_reducible show wpList _ _ _ ({ dst := _, op := Op.load 25 (Operand.tmp 3), type := _, pos := _, after := _, guard := _ } :: _) _ _); refine wpList_load_Ug _ rfl (by rfl) (w.heap.size + 1) u rfl hB.u_ ?_)
    | (go_at_call 13; refine (strc _).mono ?_; rintro e w1 ⟨rfl, hb1⟩; replace hB := hB.step hb1; clear hb1; have a0 := hB.b_.cell 0; have a1 := hB.b_.cell 1; have a2 := hB.b_.cell 2; have c0 := hB.u_.cell 0; have c1 := hB.u_.cell 1; have c2 := hB.u_.cell 2; have c3 := hB.u_.cell 3; simp only [uCells] at a0 a1 a2 c0 c1 c2 c3))
  go_upto_region 3 with (go_at_call 13; refine (rorg _).mono ?_; (try clear a0 a1 a2 c0 c1 c2 c3); rintro e w1 ⟨rfl, hb1⟩; replace hB := hB.step hb1; clear hb1; have a0 := hB.b_.cell 0; have a1 := hB.b_.cell 1; have a2 := hB.b_.cell 2; have c0 := hB.u_.cell 0; have c1 := hB.u_.cell 1; have c2 := hB.u_.cell 2; have c3 := hB.u_.cell 3; simp only [uCells] at a0 a1 a2 c0 c1 c2 c3)
  go_wp2_with (first
    | ((with_reducible show wpList _ _ _ ({ dst := _, op := Op.load 25 (Operand.tmp 2), type := _, pos := _, after := _, guard := _ } :: _) _ _); refine wpList_load_Ug _ rfl (by rfl) (w.heap.size) b rfl hB.b_ ?_)
    | ((with_reducible show wpList _ _ _ ({ dst := _, op := Op.load 25 (Operand.tmp 3), type := _, pos := _, after := _, guard := _ } :: _) _ _); refine wpList_load_Ug _ rfl (by rfl) (w.heap.size + 1) u rfl hB.u_ ?_)
    | (go_at_call 30; refine (RMay5_any _ _ (by assumption) (by assumption)).mono ?_; (try clear a0 a1 a2 c0 c1 c2 c3); rintro e w1 ⟨rfl, hb1⟩; replace hB := hB.step hb1; clear hb1; have a0 := hB.b_.cell 0; have a1 := hB.b_.cell 1; have a2 := hB.b_.cell 2; have c0 := hB.u_.cell 0; have c1 := hB.u_.cell 1; have c2 := hB.u_.cell 2; have c3 := hB.u_.cell 3; simp only [uCells] at a0 a1 a2 c0 c1 c2 c3))
  go_ret
  exact ⟨rfl, hB.bel⟩
set_option maxHeartbeats 4000000 in
set_option maxRecDepth 100000 in
theorem RLink_two (b u : Url.U) (w : World) (fb : Fits b) (fu : Fits u) (zb : (Url.str b).length ≤ 1000000) (zu : (Url.str u).length ≤ 1000000) (h1 : Url.may b = true) (h2 : Url.may u = true) (h3 : b.sch = u.sch) (h5 : b.host = u.host) (h6 : b.port = u.port) (h4 : Url.slashed2 u.path = true) :
    Calls Tryz.prog 27 #[uVal b, uVal u] w fun e w' => e = .returned (.string (str ((Url.str u).drop (u.sch.length + 1)))) ∧ Below w.heap.size w w' := by
  have hzu := (zero_of_info zeroURL).1
  have hB := BU.start w b u
  have strc : ∀ W : World, Calls Tryz.prog 13 #[uVal u] W fun e w' => e = .returned (.string (str (Url.str u))) ∧ Below W.heap.size W w' := fun W => RString_any u W fu
  have rorg : ∀ W : World, Calls Tryz.prog 13 #[uVal (placeU u)] W fun e w' => e = .returned (.string (str (Url.origin u))) ∧ Below W.heap.size W w' := fun W => RString_any (placeU u) W (placeU_fits fu)
  have hsq : ((str b.sch).toList == (str u.sch).toList) = true := by rw [str_beq]; exact beq_iff_eq.2 h3
  have hhq : ((str b.host).toList == (str u.host).toList) = true := by rw [str_beq]; exact beq_iff_eq.2 h5
  have hpq : (b.port == u.port) = true := beq_iff_eq.2 h6
  have hx2 : (str (Url.str u)).extract (u.sch.length + 1) (Url.str u).length = str ((Url.str u).drop (u.sch.length + 1)) := str_from _ _
  have hss := str_size (Url.str u)
  have hsc := str_size u.sch
  have hle : (u.sch.length : Int) + 1 ≤ ((Url.str u).length : Int) := by
    have := congrArg List.length (Url.sch_drop u)
    rw [List.length_append, List.length_cons] at this
    omega
  have hle2 : u.sch.length + 1 ≤ (Url.str u).length := by omega
  have htn : ((u.sch.length : Int) + 1).toNat = u.sch.length + 1 := by omega
  obtain ⟨p, hp⟩ := Url.path_cons (Url.may_good h2)
  have slc : ∀ W : World, Calls Tryz.prog 52 #[.string (str p)] W fun e w' => e = .returned (.bool (Url.slashed p)) ∧ w' = W := fun W => RSlash5_any p W
  have h7 : Url.slashed p = Url.slashed2 u.path := by rw [hp]; rfl
  rw [h4] at h7
  rw [h7] at slc
  have hpx : (str u.path).extract 1 (p.length + 1) = str p := by
    have := str_from u.path 1
    rw [hp] at this ⊢
    exact this
  have hps : (str u.path).size = p.length + 1 := by rw [str_size, hp]; rfl
  have h1le : (1 : Int) ≤ ((p.length + 1 : Nat) : Int) := by omega
  have h1le2 : (1 : Int) ≤ (p.length : Int) + 1 := by omega
  clear hp h7
  clear h3 h5 h6 h4
  unfold uVal at hzu
  unfold uVal uCells at rorg
  unfold uVal
  unfold uCells at hzu hB ⊢
  go_enter Tryz.func27, Tryz.ntmps27
  go_upto_region 1 with fail
  generalize (w.alloc (.cells #[.string (str b.sch), .string (str b.host), .int .i64 b.port, .string (str b.path), .string (str b.query), .string (str b.frag), .bool b.hq, .bool b.hf] 25)).alloc (.cells #[.string (str u.sch), .string (str u.host), .int .i64 u.port, .string (str u.path), .string (str u.query), .string (str u.frag), .bool u.hq, .bool u.hf] 25) = w0 at hB ⊢
  go_upto_region 2 with (first
    | ((with_reducible show wpList _ _ _ ({ dst := _, op := Op.load 25 (Operand.tmp 3), type := _, pos := _, after := _, guard := _ } :: _) _ _); refine wpList_load_Ug _ rfl (by rfl) (w.heap.size + 1) u rfl hB.u_ ?_)
    | (go_at_call 13; refine (strc _).mono ?_; rintro e w1 ⟨rfl, hb1⟩; replace hB := hB.step hb1; clear hb1; have a0 := hB.b_.cell 0; have a1 := hB.b_.cell 1; have a2 := hB.b_.cell 2; have c0 := hB.u_.cell 0; have c1 := hB.u_.cell 1; have c2 := hB.u_.cell 2; have c3 := hB.u_.cell 3; simp only [uCells] at a0 a1 a2 c0 c1 c2 c3))
  go_upto_region 3 with (go_at_call 13; refine (rorg _).mono ?_; (try clear a0 a1 a2 c0 c1 c2 c3); rintro e w1 ⟨rfl, hb1⟩; replace hB := hB.step hb1; clear hb1; have a0 := hB.b_.cell 0; have a1 := hB.b_.cell 1; have a2 := hB.b_.cell 2; have c0 := hB.u_.cell 0; have c1 := hB.u_.cell 1; have c2 := hB.u_.cell 2; have c3 := hB.u_.cell 3; simp only [uCells] at a0 a1 a2 c0 c1 c2 c3)
  go_wp2_with (first
    | ((with_reducible show wpList _ _ _ ({ dst := _, op := Op.load 25 (Operand.tmp 2), type := _, pos := _, after := _, guard := _ } :: _) _ _); refine wpList_load_Ug _ rfl (by rfl) (w.heap.size) b rfl hB.b_ ?_)
    | ((with_reducible show wpList _ _ _ ({ dst := _, op := Op.load 25 (Operand.tmp 3), type := _, pos := _, after := _, guard := _ } :: _) _ _); refine wpList_load_Ug _ rfl (by rfl) (w.heap.size + 1) u rfl hB.u_ ?_)
    | (go_at_call 30; refine (RMay5_any _ _ (by assumption) (by assumption)).mono ?_; (try clear a0 a1 a2 c0 c1 c2 c3); rintro e w1 ⟨rfl, hb1⟩; replace hB := hB.step hb1; clear hb1; have a0 := hB.b_.cell 0; have a1 := hB.b_.cell 1; have a2 := hB.b_.cell 2; have c0 := hB.u_.cell 0; have c1 := hB.u_.cell 1; have c2 := hB.u_.cell 2; have c3 := hB.u_.cell 3; simp only [uCells] at a0 a1 a2 c0 c1 c2 c3)
    | (go_at_call 52; refine (slc _).mono ?_; rintro e w1 ⟨rfl, hw1⟩; rw [hw1]; clear hw1))
  go_ret
  exact ⟨rfl, hB.bel⟩
set_option maxHeartbeats 4000000 in
set_option maxRecDepth 100000 in
theorem RLink_near (b u : Url.U) (w : World) (fb : Fits b) (fu : Fits u) (zb : (Url.str b).length ≤ 1000000) (zu : (Url.str u).length ≤ 1000000) (h1 : Url.may b = true) (h2 : Url.may u = true) (h3 : b.sch = u.sch) (h5 : b.host = u.host) (h6 : b.port = u.port) (h4 : Url.slashed2 u.path = false) :
    Calls Tryz.prog 27 #[uVal b, uVal u] w fun e w' => e = .returned (.string (str ((Url.str u).drop (Url.origin u).length))) ∧ Below w.heap.size w w' := by
  have hzu := (zero_of_info zeroURL).1
  have hB := BU.start w b u
  have strc : ∀ W : World, Calls Tryz.prog 13 #[uVal u] W fun e w' => e = .returned (.string (str (Url.str u))) ∧ Below W.heap.size W w' := fun W => RString_any u W fu
  have rorg : ∀ W : World, Calls Tryz.prog 13 #[uVal (placeU u)] W fun e w' => e = .returned (.string (str (Url.origin u))) ∧ Below W.heap.size W w' := fun W => RString_any (placeU u) W (placeU_fits fu)
  have hsq : ((str b.sch).toList == (str u.sch).toList) = true := by rw [str_beq]; exact beq_iff_eq.2 h3
  have hhq : ((str b.host).toList == (str u.host).toList) = true := by rw [str_beq]; exact beq_iff_eq.2 h5
  have hpq : (b.port == u.port) = true := beq_iff_eq.2 h6
  have hx2 : (str (Url.str u)).extract (Url.origin u).length (Url.str u).length = str ((Url.str u).drop (Url.origin u).length) := str_from _ _
  have hss := str_size (Url.str u)
  have hso := str_size (Url.origin u)
  have hle : ((Url.origin u).length : Int) ≤ ((Url.str u).length : Int) := by
    have := congrArg List.length (Url.str_origin u)
    rw [List.length_append] at this
    omega
  obtain ⟨p, hp⟩ := Url.path_cons (Url.may_good h2)
  have slc : ∀ W : World, Calls Tryz.prog 52 #[.string (str p)] W fun e w' => e = .returned (.bool (Url.slashed p)) ∧ w' = W := fun W => RSlash5_any p W
  have h7 : Url.slashed p = Url.slashed2 u.path := by rw [hp]; rfl
  rw [h4] at h7
  rw [h7] at slc
  have hpx : (str u.path).extract 1 (p.length + 1) = str p := by
    have := str_from u.path 1
    rw [hp] at this ⊢
    exact this
  have hps : (str u.path).size = p.length + 1 := by rw [str_size, hp]; rfl
  have h1le : (1 : Int) ≤ ((p.length + 1 : Nat) : Int) := by omega
  have h1le2 : (1 : Int) ≤ (p.length : Int) + 1 := by omega
  clear hp h7
  clear h3 h5 h6 h4
  unfold uVal at hzu
  unfold uVal uCells at rorg
  unfold uVal
  unfold uCells at hzu hB ⊢
  go_enter Tryz.func27, Tryz.ntmps27
  go_upto_region 1 with fail
  generalize (w.alloc (.cells #[.string (str b.sch), .string (str b.host), .int .i64 b.port, .string (str b.path), .string (str b.query), .string (str b.frag), .bool b.hq, .bool b.hf] 25)).alloc (.cells #[.string (str u.sch), .string (str u.host), .int .i64 u.port, .string (str u.path), .string (str u.query), .string (str u.frag), .bool u.hq, .bool u.hf] 25) = w0 at hB ⊢
  go_upto_region 2 with (first
    | ((with_reducible show wpList _ _ _ ({ dst := _, op := Op.load 25 (Operand.tmp 3), type := _, pos := _, after := _, guard := _ } :: _) _ _); refine wpList_load_Ug _ rfl (by rfl) (w.heap.size + 1) u rfl hB.u_ ?_)
    | (go_at_call 13; refine (strc _).mono ?_; rintro e w1 ⟨rfl, hb1⟩; replace hB := hB.step hb1; clear hb1; have a0 := hB.b_.cell 0; have a1 := hB.b_.cell 1; have a2 := hB.b_.cell 2; have c0 := hB.u_.cell 0; have c1 := hB.u_.cell 1; have c2 := hB.u_.cell 2; have c3 := hB.u_.cell 3; simp only [uCells] at a0 a1 a2 c0 c1 c2 c3))
  go_upto_region 3 with (go_at_call 13; refine (rorg _).mono ?_; (try clear a0 a1 a2 c0 c1 c2 c3); rintro e w1 ⟨rfl, hb1⟩; replace hB := hB.step hb1; clear hb1; have a0 := hB.b_.cell 0; have a1 := hB.b_.cell 1; have a2 := hB.b_.cell 2; have c0 := hB.u_.cell 0; have c1 := hB.u_.cell 1; have c2 := hB.u_.cell 2; have c3 := hB.u_.cell 3; simp only [uCells] at a0 a1 a2 c0 c1 c2 c3)
  go_wp2_with (first
    | ((with_reducible show wpList _ _ _ ({ dst := _, op := Op.load 25 (Operand.tmp 2), type := _, pos := _, after := _, guard := _ } :: _) _ _); refine wpList_load_Ug _ rfl (by rfl) (w.heap.size) b rfl hB.b_ ?_)
    | ((with_reducible show wpList _ _ _ ({ dst := _, op := Op.load 25 (Operand.tmp 3), type := _, pos := _, after := _, guard := _ } :: _) _ _); refine wpList_load_Ug _ rfl (by rfl) (w.heap.size + 1) u rfl hB.u_ ?_)
    | (go_at_call 30; refine (RMay5_any _ _ (by assumption) (by assumption)).mono ?_; (try clear a0 a1 a2 c0 c1 c2 c3); rintro e w1 ⟨rfl, hb1⟩; replace hB := hB.step hb1; clear hb1; have a0 := hB.b_.cell 0; have a1 := hB.b_.cell 1; have a2 := hB.b_.cell 2; have c0 := hB.u_.cell 0; have c1 := hB.u_.cell 1; have c2 := hB.u_.cell 2; have c3 := hB.u_.cell 3; simp only [uCells] at a0 a1 a2 c0 c1 c2 c3)
    | (go_at_call 52; refine (slc _).mono ?_; rintro e w1 ⟨rfl, hw1⟩; rw [hw1]; clear hw1))
  go_ret
  exact ⟨rfl, hB.bel⟩
theorem RLink_any (b u : Url.U) (w : World) (fb : Fits b) (fu : Fits u) (zb : (Url.str b).length ≤ 1000000) (zu : (Url.str u).length ≤ 1000000) :
    Calls Tryz.prog 27 #[uVal b, uVal u] w fun e w' => e = .returned (.string (str (Url.link b u))) ∧ Below w.heap.size w w' := by
  cases h1 : Url.may b
  · rw [link_no (fun h => by rw [h1] at h; cases h.1)]
    exact RLink_bad1 b u w fb fu zb zu h1
  · cases h2 : Url.may u
    · rw [link_no (fun h => by rw [h2] at h; cases h.2)]
      exact RLink_bad2 b u w fb fu zb zu h1 h2
    · have gb := Url.may_good h1
      have g := Url.may_good h2
      have hi := Url.origin_iff g gb
      rw [link_yes h1 h2]
      by_cases h3 : b.sch = u.sch
      · by_cases h5 : b.host = u.host
        · by_cases h6 : b.port = u.port
          · have ho := hi.2 ⟨h3.symm, h5.symm, h6.symm⟩
            cases h4 : Url.slashed2 u.path
            · rw [if_pos ⟨ho, rfl⟩]
              exact RLink_near b u w fb fu zb zu h1 h2 h3 h5 h6 h4
            · rw [if_neg (fun h => by cases h.2), if_pos h3.symm]
              exact RLink_two b u w fb fu zb zu h1 h2 h3 h5 h6 h4
          · rw [if_neg (fun h => h6 (hi.1 h.1).2.2.symm), if_pos h3.symm]
            exact RLink_port b u w fb fu zb zu h1 h2 h3 h5 h6
        · rw [if_neg (fun h => h5 (hi.1 h.1).2.1.symm), if_pos h3.symm]
          exact RLink_host b u w fb fu zb zu h1 h2 h3 h5
      · rw [if_neg (fun h => h3 (hi.1 h.1).1.symm), if_neg (fun h => h3 h.symm)]
        exact RLink_else b u w fb fu zb zu h1 h2 h3
end Go.Proofs.YtnmkhbelmdokmaaGreatDoor
/- Contracts of the reference's joined and Join of layer 5. -/
namespace Url
/-- The URL of a link that is cleaned. -/
def joinC (b : U) (c : List UInt8) : Int × U :=
  if hasSch c = true then (if sch c = b.sch ∧ slashed (schR c) = false then join b (schR c) else (perr c, parse c))
  else if slashed2 c = true then (perr (b.sch ++ 58 :: c), parse (b.sch ++ 58 :: c))
  else if 2048 < (str (turned b c)).length then (5, zero) else (0, turned b c)
theorem join_C {b : U} {l : List UInt8} (h : may b = true) (hl : ¬ 2048 < (clean l).length) : join b l = joinC b (clean l) := by
  unfold joinC
  rw [join, if_neg (by rw [h]; decide), if_neg hl]
  split <;> rfl
end Url
namespace Go.Proofs.YtnmkhbelmdokmaaGreatDoor
open Go.RowKit
theorem TU.cell {c d i : Nat} {w W : World} {u : Url.U} (h : TU c w W u) (hlt : c + 1 < d) (v : Value) : TU c w (W.setCell ⟨d, i, none⟩ v) u := ⟨h.at_.other (by omega) _, h.res.other (by omega) _, h.bel.setCell (p := ⟨d, i, none⟩) (by show c ≤ d; omega) _⟩
theorem YieldsIf_from {ops : Array Oper} {S : World → Prop} {o : Oper} {a : Act} {l r : List UInt8} {k : Int} (x y : Operand) (ho : o.op = .slice 9 x (some y) none none) (hw : Region.wanted o (yielded ops a.tmps) = true) (hx : a.eval x = .string (str l)) (hy : a.eval y = .int .i64 k) (h0 : 0 ≤ k) (h1 : k ≤ (l.length : Int)) (hr : l.drop k.toNat = r) : YieldsIf Tryz.prog ops S o (.string (str r)) a :=
  (.inl ⟨hw, fun w _ => by
    unfold execOp
    rw [ho]
    simp only [hx, hy, Option.map_some, Option.map_none, run_sliceAt_string (P := Tryz.prog) (h := Tryz.underlying9), run_slice_string_from_if (P := Tryz.prog) (h := Tryz.underlying9), str_size, if_pos (And.intro h0 h1), Sem.run_bind, Result.andThen, Sem.run_pure]
    rw [str_from, hr]⟩)
set_option maxHeartbeats 8000000 in
set_option maxRecDepth 100000 in
theorem RJoined_other (b : Url.U) (c : List UInt8) (w : World) (_g : Url.Good b) (hc : (c).length ≤ 2048) (hs : Url.hasSch c = true) (h1 : ¬ Url.sch c = b.sch) :
    Calls Tryz.prog 50 #[uVal b, .string (str (c))] w fun e w' => e = .returned (.tuple #[uVal (Url.parse c), .int .i64 (Url.perr c)]) ∧ Below w.heap.size w w' := by
  have hzu := (zero_of_info zeroURL).1
  have hT : TU w.heap.size w ((w.alloc (.cells (uCells b) 25)).alloc (.cells (uCells Url.zero) 25)) b :=
    ⟨UAt.below (heap_alloc_last _ _) ((Below.refl _ _).alloc (Nat.le_refl _) _), alloc_two _ _ _, ((Below.refl _ w).alloc (Nat.le_refl _) _).alloc (by simp) _⟩
  have hs2 := (Url.hasSch_iff c).1 hs
  obtain ⟨q1, q2, q3, q4⟩ := Url.schemeN_pos c hs2.1 hs2.2
  have schc : ∀ W : World, Calls Tryz.prog 36 #[.string (str c)] W fun e w' => e = .returned (.int .i64 (Url.schemeN c : Nat)) ∧ w' = W := fun W => RScheme_any _ W (by omega)
  have hul := Url.upto_len [58] c
  have lowc : ∀ W : World, Calls Tryz.prog 37 #[.string (str (Url.upto [58] c))] W fun e w' => e = .returned (.string (str (Url.sch c))) ∧ Below W.heap.size W w' := fun W => RLower_str _ W (by omega)
  obtain ⟨k, hk⟩ : ∃ k, (Url.upto [58] c).length = k := ⟨_, rfl⟩
  rw [hk] at q1 q2 q3 q4 hul
  rw [q1] at schc
  have HQ2 : Hid (List.take k c = Url.upto [58] c) := q2
  have HQ3 : Hid (List.drop (k + 1) c = Url.schR c) := q3
  clear q1 q2 q3 hk hs2
  have hwr : IntKind.i64.wrap (k : Int) = (k : Int) := by rw [IntKind.wrap_i64]; omega
  have hpos : (0 : Int) < ((k + 1 : Nat) : Int) := by omega
  have hpos2 : (0 : Int) < (k : Int) + 1 := by omega
  have hsl : ∀ W : World, Calls Tryz.prog 52 #[.string (str (Url.schR c))] W fun e w' => e = .returned (.bool (Url.slashed (Url.schR c))) ∧ w' = W := fun W => RSlash5_any _ W
  have parc : ∀ W : World, Calls Tryz.prog 12 #[.string (str (c))] W fun e w' => e = .returned (.tuple #[uVal (Url.parse (c)), .int .i64 (Url.perr (c))]) ∧ Below W.heap.size W w' := fun W => RParse_any _ W (by omega)
  generalize Url.parse (c) = p at *
  generalize Url.perr (c) = pe at *
  have hsch : ((str (Url.sch c)).toList == (str b.sch).toList) = false := by rw [str_beq]; exact beq_eq_false_iff_ne.2 h1
  clear h1 hs
  generalize Url.sch c = s at *
  generalize Url.schR c = r at *
  generalize Url.upto [58] c = a at *
  unfold uVal at hzu
  unfold uVal
  unfold uCells at hzu hT ⊢
  go_enter Tryz.func50, Tryz.ntmps50
  go_upto_region 1 with fail
  generalize (w.alloc (.cells #[.string (str b.sch), .string (str b.host), .int .i64 b.port, .string (str b.path), .string (str b.query), .string (str b.frag), .bool b.hq, .bool b.hf] 25)).alloc (.cells #[.string (str Url.zero.sch), .string (str Url.zero.host), .int .i64 Url.zero.port, .string (str Url.zero.path), .string (str Url.zero.query), .string (str Url.zero.frag), .bool Url.zero.hq, .bool Url.zero.hf] 25) = w0 at hT ⊢
  go_upto_region 3 with (first
    | (go_at_call 36; refine (schc _).mono ?_; rintro e w2 ⟨rfl, hw2⟩; rw [hw2]; clear hw2))
  go_cut [26] from 13 to 26 (fun s w' => s = Value.bool true ∧ TU w.heap.size w w' b)
  case first =>
    obtain ⟨S, hS1⟩ : ∃ S : World → Prop, ∀ W, S W ↔ TU w.heap.size w W b := ⟨_, fun _ => Iff.rfl⟩
    refine wp_region_held_drew (S := S) (by kernel_rfl) ((hS1 _).2 (hT.step ((Below.refl _ _).drew))) (fun hS => ?_)
    refine takeH 0 13 (.string (str c)) rfl rfl (by kernel_rfl) (by kernel_rfl) (by kernel_rfl) (fun _ _ _ h => h) (Or.inl ⟨by kernel_rfl, fun W _ => by go_simp⟩) hS ?_
    simp only [Act.put, List.setIfInBounds_toArray, List.set_cons_zero, List.set_cons_succ]
    refine takeH 1 14 (.int .i64 ((k : Int) + 1)) rfl rfl (by kernel_rfl) (by kernel_rfl) (by kernel_rfl) (fun _ _ _ h => h) (Or.inl ⟨by kernel_rfl, fun W _ => by go_simp⟩) hS ?_
    simp only [Act.put, List.setIfInBounds_toArray, List.set_cons_zero, List.set_cons_succ]
    refine takeH 2 15 (.int .i64 (k : Int)) rfl rfl (by kernel_rfl) (by kernel_rfl) (by kernel_rfl) (fun _ _ _ h => h) (Or.inl ⟨by kernel_rfl, fun W _ => by go_simp⟩) hS ?_
    simp only [Act.put, List.setIfInBounds_toArray, List.set_cons_zero, List.set_cons_succ]
    refine takeH 3 16 (.string (str a)) rfl rfl (by kernel_rfl) (by kernel_rfl) (by kernel_rfl) (fun _ _ _ h => h) ((y_slice_to (l := c) (r := a) (k := (k : Int)) (Operand.tmp 13) (Operand.tmp 15) rfl rfl (by kernel_rfl) (by kernel_rfl) (by omega) (by omega) HQ2.out).yieldsIf) hS ?_
    simp only [Act.put, List.setIfInBounds_toArray, List.set_cons_zero, List.set_cons_succ]
    refine takeH 5 18 (.pointer (some ⟨w.heap.size, 0, none⟩)) rfl rfl (by kernel_rfl) (by kernel_rfl) (by kernel_rfl) (fun _ _ _ h => h) (Or.inl ⟨by kernel_rfl, fun W _ => by go_simp⟩) hS ?_
    simp only [Act.put, List.setIfInBounds_toArray, List.set_cons_zero, List.set_cons_succ]
    refine takeH 6 19 (.string (str b.sch)) rfl rfl (by kernel_rfl) (by kernel_rfl) (by kernel_rfl) (fun _ _ _ h => h) (Or.inl ⟨by kernel_rfl, fun W h => by have hcc : W.cell? ⟨w.heap.size, 0, none⟩ = some (.string (str b.sch)) := ((hS1 W).1 h).at_.cell 0; go_simp⟩) hS ?_
    simp only [Act.put, List.setIfInBounds_toArray, List.set_cons_zero, List.set_cons_succ]
    refine wpAnyH_ready (rs := [4]) (by kernel_rfl) (by simp) ?_
    refine AllReadyH.cons rfl (fun K hK => ?_) AllReadyH.nil
    go_simp
    refine (lowc _).mono ?_
    rintro e x1 ⟨rfl, hx1⟩
    refine hK.out _ _ ((hS1 _).2 (((hS1 _).1 hS).step hx1)) (fun hS => ?_)
    clear hK K
    refine takeH 7 20 (.bool true) rfl rfl (by kernel_rfl) (by kernel_rfl) (by kernel_rfl) (fun _ _ _ h => h) (Or.inl ⟨by kernel_rfl, fun W _ => by go_simp⟩) hS ?_
    simp only [Act.put, List.setIfInBounds_toArray, List.set_cons_zero, List.set_cons_succ]
    refine takeH 8 21 (.bool true) rfl rfl (by kernel_rfl) (by kernel_rfl) (by kernel_rfl) (fun _ _ _ h => h) (Or.inl ⟨by kernel_rfl, fun W _ => by go_simp⟩) hS ?_
    simp only [Act.put, List.setIfInBounds_toArray, List.set_cons_zero, List.set_cons_succ]
    refine takeH 9 22 (undef) rfl rfl (by kernel_rfl) (by kernel_rfl) (by kernel_rfl) (fun _ _ _ h => h) (Or.inr ⟨by kernel_rfl, rfl⟩) hS ?_
    simp only [Act.put, List.setIfInBounds_toArray, List.set_cons_zero, List.set_cons_succ]
    refine takeH 10 23 (undef) rfl rfl (by kernel_rfl) (by kernel_rfl) (by kernel_rfl) (fun _ _ _ h => h) (Or.inr ⟨by kernel_rfl, rfl⟩) hS ?_
    simp only [Act.put, List.setIfInBounds_toArray, List.set_cons_zero, List.set_cons_succ]
    refine takeH 11 24 (undef) rfl rfl (by kernel_rfl) (by kernel_rfl) (by kernel_rfl) (fun _ _ _ h => h) (Or.inr ⟨by kernel_rfl, rfl⟩) hS ?_
    simp only [Act.put, List.setIfInBounds_toArray, List.set_cons_zero, List.set_cons_succ]
    refine takeH 12 25 (undef) rfl rfl (by kernel_rfl) (by kernel_rfl) (by kernel_rfl) (fun _ _ _ h => h) (Or.inr ⟨by kernel_rfl, rfl⟩) hS ?_
    simp only [Act.put, List.setIfInBounds_toArray, List.set_cons_zero, List.set_cons_succ]
    refine takeH 13 26 (.bool true) rfl rfl (by kernel_rfl) (by kernel_rfl) (by kernel_rfl) (fun _ _ _ h => h) (Or.inl ⟨by kernel_rfl, fun W _ => by go_simp⟩) hS ?_
    simp only [Act.put, List.setIfInBounds_toArray, List.set_cons_zero, List.set_cons_succ]
    refine wpAnyH_done (by kernel_rfl) ?_ _
    go_wp2
    go_meet
    case rel => exact ⟨rfl, (hS1 _).1 hS⟩
  case rest =>
    obtain ⟨rfl, hT⟩ := hcut
    go_wp2_with (first
      | (go_at_call 12; refine (parc _).mono ?_; rintro e w5 ⟨rfl, hb5⟩; replace hT := hT.step hb5; clear hb5)
      | ((with_reducible show wpList _ _ _ ({ dst := _, op := Op.store 25 (Operand.tmp 4) _, type := _, pos := _, after := _, guard := _ } :: _) _ _); refine wpList_store_U _ _ rfl rfl (w.heap.size + 1) p Url.zero rfl rfl hT.res ?_))
    refine ret_U2 (u := p) rfl rfl rfl rfl (setRow_U hT.res) ⟨?_, below_setRow hT.bel (by omega) _⟩
    rfl
set_option maxHeartbeats 8000000 in
set_option maxRecDepth 100000 in
theorem RJoined_slash (b : Url.U) (c : List UInt8) (w : World) (_g : Url.Good b) (hc : (c).length ≤ 2048) (hs : Url.hasSch c = true) (h1 : Url.sch c = b.sch) (h2 : Url.slashed (Url.schR c) = true) :
    Calls Tryz.prog 50 #[uVal b, .string (str (c))] w fun e w' => e = .returned (.tuple #[uVal (Url.parse c), .int .i64 (Url.perr c)]) ∧ Below w.heap.size w w' := by
  have hzu := (zero_of_info zeroURL).1
  have hT : TU w.heap.size w ((w.alloc (.cells (uCells b) 25)).alloc (.cells (uCells Url.zero) 25)) b :=
    ⟨UAt.below (heap_alloc_last _ _) ((Below.refl _ _).alloc (Nat.le_refl _) _), alloc_two _ _ _, ((Below.refl _ w).alloc (Nat.le_refl _) _).alloc (by simp) _⟩
  have hs2 := (Url.hasSch_iff c).1 hs
  obtain ⟨q1, q2, q3, q4⟩ := Url.schemeN_pos c hs2.1 hs2.2
  have schc : ∀ W : World, Calls Tryz.prog 36 #[.string (str c)] W fun e w' => e = .returned (.int .i64 (Url.schemeN c : Nat)) ∧ w' = W := fun W => RScheme_any _ W (by omega)
  have hul := Url.upto_len [58] c
  have lowc : ∀ W : World, Calls Tryz.prog 37 #[.string (str (Url.upto [58] c))] W fun e w' => e = .returned (.string (str (Url.sch c))) ∧ Below W.heap.size W w' := fun W => RLower_str _ W (by omega)
  obtain ⟨k, hk⟩ : ∃ k, (Url.upto [58] c).length = k := ⟨_, rfl⟩
  rw [hk] at q1 q2 q3 q4 hul
  rw [q1] at schc
  have HQ2 : Hid (List.take k c = Url.upto [58] c) := q2
  have HQ3 : Hid (List.drop (k + 1) c = Url.schR c) := q3
  clear q1 q2 q3 hk hs2
  have hwr : IntKind.i64.wrap (k : Int) = (k : Int) := by rw [IntKind.wrap_i64]; omega
  have hpos : (0 : Int) < ((k + 1 : Nat) : Int) := by omega
  have hpos2 : (0 : Int) < (k : Int) + 1 := by omega
  have hsl : ∀ W : World, Calls Tryz.prog 52 #[.string (str (Url.schR c))] W fun e w' => e = .returned (.bool (Url.slashed (Url.schR c))) ∧ w' = W := fun W => RSlash5_any _ W
  have parc : ∀ W : World, Calls Tryz.prog 12 #[.string (str (c))] W fun e w' => e = .returned (.tuple #[uVal (Url.parse (c)), .int .i64 (Url.perr (c))]) ∧ Below W.heap.size W w' := fun W => RParse_any _ W (by omega)
  generalize Url.parse (c) = p at *
  generalize Url.perr (c) = pe at *
  have hsch : ((str (Url.sch c)).toList == (str b.sch).toList) = true := by rw [h1]; exact beq_self_eq_true _
  rw [h2] at hsl
  clear h1 hs h2
  generalize Url.sch c = s at *
  generalize Url.schR c = r at *
  generalize Url.upto [58] c = a at *
  unfold uVal at hzu
  unfold uVal
  unfold uCells at hzu hT ⊢
  go_enter Tryz.func50, Tryz.ntmps50
  go_upto_region 1 with fail
  generalize (w.alloc (.cells #[.string (str b.sch), .string (str b.host), .int .i64 b.port, .string (str b.path), .string (str b.query), .string (str b.frag), .bool b.hq, .bool b.hf] 25)).alloc (.cells #[.string (str Url.zero.sch), .string (str Url.zero.host), .int .i64 Url.zero.port, .string (str Url.zero.path), .string (str Url.zero.query), .string (str Url.zero.frag), .bool Url.zero.hq, .bool Url.zero.hf] 25) = w0 at hT ⊢
  go_upto_region 3 with (first
    | (go_at_call 36; refine (schc _).mono ?_; rintro e w2 ⟨rfl, hw2⟩; rw [hw2]; clear hw2))
  go_cut [26] from 13 to 26 (fun s w' => s = Value.bool true ∧ TU w.heap.size w w' b)
  case first =>
    obtain ⟨S, hS1⟩ : ∃ S : World → Prop, ∀ W, S W ↔ TU w.heap.size w W b := ⟨_, fun _ => Iff.rfl⟩
    refine wp_region_held_drew (S := S) (by kernel_rfl) ((hS1 _).2 (hT.step ((Below.refl _ _).drew))) (fun hS => ?_)
    refine takeH 0 13 (.string (str c)) rfl rfl (by kernel_rfl) (by kernel_rfl) (by kernel_rfl) (fun _ _ _ h => h) (Or.inl ⟨by kernel_rfl, fun W _ => by go_simp⟩) hS ?_
    simp only [Act.put, List.setIfInBounds_toArray, List.set_cons_zero, List.set_cons_succ]
    refine takeH 1 14 (.int .i64 ((k : Int) + 1)) rfl rfl (by kernel_rfl) (by kernel_rfl) (by kernel_rfl) (fun _ _ _ h => h) (Or.inl ⟨by kernel_rfl, fun W _ => by go_simp⟩) hS ?_
    simp only [Act.put, List.setIfInBounds_toArray, List.set_cons_zero, List.set_cons_succ]
    refine takeH 2 15 (.int .i64 (k : Int)) rfl rfl (by kernel_rfl) (by kernel_rfl) (by kernel_rfl) (fun _ _ _ h => h) (Or.inl ⟨by kernel_rfl, fun W _ => by go_simp⟩) hS ?_
    simp only [Act.put, List.setIfInBounds_toArray, List.set_cons_zero, List.set_cons_succ]
    refine takeH 3 16 (.string (str a)) rfl rfl (by kernel_rfl) (by kernel_rfl) (by kernel_rfl) (fun _ _ _ h => h) ((y_slice_to (l := c) (r := a) (k := (k : Int)) (Operand.tmp 13) (Operand.tmp 15) rfl rfl (by kernel_rfl) (by kernel_rfl) (by omega) (by omega) HQ2.out).yieldsIf) hS ?_
    simp only [Act.put, List.setIfInBounds_toArray, List.set_cons_zero, List.set_cons_succ]
    refine takeH 5 18 (.pointer (some ⟨w.heap.size, 0, none⟩)) rfl rfl (by kernel_rfl) (by kernel_rfl) (by kernel_rfl) (fun _ _ _ h => h) (Or.inl ⟨by kernel_rfl, fun W _ => by go_simp⟩) hS ?_
    simp only [Act.put, List.setIfInBounds_toArray, List.set_cons_zero, List.set_cons_succ]
    refine takeH 6 19 (.string (str b.sch)) rfl rfl (by kernel_rfl) (by kernel_rfl) (by kernel_rfl) (fun _ _ _ h => h) (Or.inl ⟨by kernel_rfl, fun W h => by have hcc : W.cell? ⟨w.heap.size, 0, none⟩ = some (.string (str b.sch)) := ((hS1 W).1 h).at_.cell 0; go_simp⟩) hS ?_
    simp only [Act.put, List.setIfInBounds_toArray, List.set_cons_zero, List.set_cons_succ]
    refine wpAnyH_ready (rs := [4]) (by kernel_rfl) (by simp) ?_
    refine AllReadyH.cons rfl (fun K hK => ?_) AllReadyH.nil
    go_simp
    refine (lowc _).mono ?_
    rintro e x1 ⟨rfl, hx1⟩
    refine hK.out _ _ ((hS1 _).2 (((hS1 _).1 hS).step hx1)) (fun hS => ?_)
    clear hK K
    refine takeH 7 20 (.bool false) rfl rfl (by kernel_rfl) (by kernel_rfl) (by kernel_rfl) (fun _ _ _ h => h) (Or.inl ⟨by kernel_rfl, fun W _ => by go_simp⟩) hS ?_
    simp only [Act.put, List.setIfInBounds_toArray, List.set_cons_zero, List.set_cons_succ]
    refine takeH 8 21 (.bool false) rfl rfl (by kernel_rfl) (by kernel_rfl) (by kernel_rfl) (fun _ _ _ h => h) (Or.inl ⟨by kernel_rfl, fun W _ => by go_simp⟩) hS ?_
    simp only [Act.put, List.setIfInBounds_toArray, List.set_cons_zero, List.set_cons_succ]
    refine takeH 9 22 (.string (str c)) rfl rfl (by kernel_rfl) (by kernel_rfl) (by kernel_rfl) (fun _ _ _ h => h) (Or.inl ⟨by kernel_rfl, fun W _ => by go_simp⟩) hS ?_
    simp only [Act.put, List.setIfInBounds_toArray, List.set_cons_zero, List.set_cons_succ]
    refine takeH 10 23 (.int .i64 ((k : Int) + 1)) rfl rfl (by kernel_rfl) (by kernel_rfl) (by kernel_rfl) (fun _ _ _ h => h) (Or.inl ⟨by kernel_rfl, fun W _ => by go_simp⟩) hS ?_
    simp only [Act.put, List.setIfInBounds_toArray, List.set_cons_zero, List.set_cons_succ]
    refine takeH 11 24 (.string (str r)) rfl rfl (by kernel_rfl) (by kernel_rfl) (by kernel_rfl) (fun _ _ _ h => h) ((YieldsIf_from (l := c) (r := r) (k := (k : Int) + 1) (Operand.tmp 22) (Operand.tmp 23) rfl (by kernel_rfl) (by kernel_rfl) (by kernel_rfl) (by omega) (by omega) (by rw [show ((k : Int) + 1).toNat = k + 1 by omega]; exact HQ3.out))) hS ?_
    simp only [Act.put, List.setIfInBounds_toArray, List.set_cons_zero, List.set_cons_succ]
    refine wpAnyH_ready (rs := [12]) (by kernel_rfl) (by simp) ?_
    refine AllReadyH.cons rfl (fun K hK => ?_) AllReadyH.nil
    go_simp
    refine (hsl _).mono ?_
    rintro e x2 ⟨rfl, hx2⟩
    refine hK.out _ _ (by rw [hx2]; exact hS) (fun hS => ?_)
    clear hK K
    refine takeH 13 26 (.bool true) rfl rfl (by kernel_rfl) (by kernel_rfl) (by kernel_rfl) (fun _ _ _ h => h) (Or.inl ⟨by kernel_rfl, fun W _ => by go_simp⟩) hS ?_
    simp only [Act.put, List.setIfInBounds_toArray, List.set_cons_zero, List.set_cons_succ]
    refine wpAnyH_done (by kernel_rfl) ?_ _
    go_wp2
    go_meet
    case rel => exact ⟨rfl, (hS1 _).1 hS⟩
  case rest =>
    obtain ⟨rfl, hT⟩ := hcut
    go_wp2_with (first
      | (go_at_call 12; refine (parc _).mono ?_; rintro e w5 ⟨rfl, hb5⟩; replace hT := hT.step hb5; clear hb5)
      | ((with_reducible show wpList _ _ _ ({ dst := _, op := Op.store 25 (Operand.tmp 4) _, type := _, pos := _, after := _, guard := _ } :: _) _ _); refine wpList_store_U _ _ rfl rfl (w.heap.size + 1) p Url.zero rfl rfl hT.res ?_))
    refine ret_U2 (u := p) rfl rfl rfl rfl (setRow_U hT.res) ⟨?_, below_setRow hT.bel (by omega) _⟩
    rfl
set_option maxHeartbeats 8000000 in
set_option maxRecDepth 100000 in
theorem RJoined_again (b : Url.U) (c : List UInt8) (w : World) (_g : Url.Good b) (hc : (c).length ≤ 2048) (hs : Url.hasSch c = true) (h1 : Url.sch c = b.sch) (h2 : Url.slashed (Url.schR c) = false) (v : Url.U) (ev : Int) (IH : ∀ W : World, Calls Tryz.prog 22 #[uVal b, .string (str (Url.schR c))] W fun e w' => e = .returned (.tuple #[uVal v, .int .i64 ev]) ∧ Below W.heap.size W w') :
    Calls Tryz.prog 50 #[uVal b, .string (str (c))] w fun e w' => e = .returned (.tuple #[uVal (v), .int .i64 (ev)]) ∧ Below w.heap.size w w' := by
  have hzu := (zero_of_info zeroURL).1
  have hT : TU w.heap.size w ((w.alloc (.cells (uCells b) 25)).alloc (.cells (uCells Url.zero) 25)) b :=
    ⟨UAt.below (heap_alloc_last _ _) ((Below.refl _ _).alloc (Nat.le_refl _) _), alloc_two _ _ _, ((Below.refl _ w).alloc (Nat.le_refl _) _).alloc (by simp) _⟩
  have hs2 := (Url.hasSch_iff c).1 hs
  obtain ⟨q1, q2, q3, q4⟩ := Url.schemeN_pos c hs2.1 hs2.2
  have schc : ∀ W : World, Calls Tryz.prog 36 #[.string (str c)] W fun e w' => e = .returned (.int .i64 (Url.schemeN c : Nat)) ∧ w' = W := fun W => RScheme_any _ W (by omega)
  have hul := Url.upto_len [58] c
  have lowc : ∀ W : World, Calls Tryz.prog 37 #[.string (str (Url.upto [58] c))] W fun e w' => e = .returned (.string (str (Url.sch c))) ∧ Below W.heap.size W w' := fun W => RLower_str _ W (by omega)
  obtain ⟨k, hk⟩ : ∃ k, (Url.upto [58] c).length = k := ⟨_, rfl⟩
  rw [hk] at q1 q2 q3 q4 hul
  rw [q1] at schc
  have HQ2 : Hid (List.take k c = Url.upto [58] c) := q2
  have HQ3 : Hid (List.drop (k + 1) c = Url.schR c) := q3
  clear q1 q2 q3 hk hs2
  have hwr : IntKind.i64.wrap (k : Int) = (k : Int) := by rw [IntKind.wrap_i64]; omega
  have hpos : (0 : Int) < ((k + 1 : Nat) : Int) := by omega
  have hpos2 : (0 : Int) < (k : Int) + 1 := by omega
  have hsl : ∀ W : World, Calls Tryz.prog 52 #[.string (str (Url.schR c))] W fun e w' => e = .returned (.bool (Url.slashed (Url.schR c))) ∧ w' = W := fun W => RSlash5_any _ W
  have hsch : ((str (Url.sch c)).toList == (str b.sch).toList) = true := by rw [h1]; exact beq_self_eq_true _
  rw [h2] at hsl
  clear h1 hs h2
  generalize Url.sch c = s at *
  generalize Url.schR c = r at *
  generalize Url.upto [58] c = a at *
  unfold uVal at hzu
  unfold uVal
  unfold uCells at hzu hT ⊢
  go_enter Tryz.func50, Tryz.ntmps50
  go_upto_region 1 with fail
  generalize (w.alloc (.cells #[.string (str b.sch), .string (str b.host), .int .i64 b.port, .string (str b.path), .string (str b.query), .string (str b.frag), .bool b.hq, .bool b.hf] 25)).alloc (.cells #[.string (str Url.zero.sch), .string (str Url.zero.host), .int .i64 Url.zero.port, .string (str Url.zero.path), .string (str Url.zero.query), .string (str Url.zero.frag), .bool Url.zero.hq, .bool Url.zero.hf] 25) = w0 at hT ⊢
  go_upto_region 3 with (first
    | (go_at_call 36; refine (schc _).mono ?_; rintro e w2 ⟨rfl, hw2⟩; rw [hw2]; clear hw2))
  go_cut [26] from 13 to 26 (fun s w' => s = Value.bool false ∧ TU w.heap.size w w' b)
  case first =>
    obtain ⟨S, hS1⟩ : ∃ S : World → Prop, ∀ W, S W ↔ TU w.heap.size w W b := ⟨_, fun _ => Iff.rfl⟩
    refine wp_region_held_drew (S := S) (by kernel_rfl) ((hS1 _).2 (hT.step ((Below.refl _ _).drew))) (fun hS => ?_)
    refine takeH 0 13 (.string (str c)) rfl rfl (by kernel_rfl) (by kernel_rfl) (by kernel_rfl) (fun _ _ _ h => h) (Or.inl ⟨by kernel_rfl, fun W _ => by go_simp⟩) hS ?_
    simp only [Act.put, List.setIfInBounds_toArray, List.set_cons_zero, List.set_cons_succ]
    refine takeH 1 14 (.int .i64 ((k : Int) + 1)) rfl rfl (by kernel_rfl) (by kernel_rfl) (by kernel_rfl) (fun _ _ _ h => h) (Or.inl ⟨by kernel_rfl, fun W _ => by go_simp⟩) hS ?_
    simp only [Act.put, List.setIfInBounds_toArray, List.set_cons_zero, List.set_cons_succ]
    refine takeH 2 15 (.int .i64 (k : Int)) rfl rfl (by kernel_rfl) (by kernel_rfl) (by kernel_rfl) (fun _ _ _ h => h) (Or.inl ⟨by kernel_rfl, fun W _ => by go_simp⟩) hS ?_
    simp only [Act.put, List.setIfInBounds_toArray, List.set_cons_zero, List.set_cons_succ]
    refine takeH 3 16 (.string (str a)) rfl rfl (by kernel_rfl) (by kernel_rfl) (by kernel_rfl) (fun _ _ _ h => h) ((y_slice_to (l := c) (r := a) (k := (k : Int)) (Operand.tmp 13) (Operand.tmp 15) rfl rfl (by kernel_rfl) (by kernel_rfl) (by omega) (by omega) HQ2.out).yieldsIf) hS ?_
    simp only [Act.put, List.setIfInBounds_toArray, List.set_cons_zero, List.set_cons_succ]
    refine takeH 5 18 (.pointer (some ⟨w.heap.size, 0, none⟩)) rfl rfl (by kernel_rfl) (by kernel_rfl) (by kernel_rfl) (fun _ _ _ h => h) (Or.inl ⟨by kernel_rfl, fun W _ => by go_simp⟩) hS ?_
    simp only [Act.put, List.setIfInBounds_toArray, List.set_cons_zero, List.set_cons_succ]
    refine takeH 6 19 (.string (str b.sch)) rfl rfl (by kernel_rfl) (by kernel_rfl) (by kernel_rfl) (fun _ _ _ h => h) (Or.inl ⟨by kernel_rfl, fun W h => by have hcc : W.cell? ⟨w.heap.size, 0, none⟩ = some (.string (str b.sch)) := ((hS1 W).1 h).at_.cell 0; go_simp⟩) hS ?_
    simp only [Act.put, List.setIfInBounds_toArray, List.set_cons_zero, List.set_cons_succ]
    refine wpAnyH_ready (rs := [4]) (by kernel_rfl) (by simp) ?_
    refine AllReadyH.cons rfl (fun K hK => ?_) AllReadyH.nil
    go_simp
    refine (lowc _).mono ?_
    rintro e x1 ⟨rfl, hx1⟩
    refine hK.out _ _ ((hS1 _).2 (((hS1 _).1 hS).step hx1)) (fun hS => ?_)
    clear hK K
    refine takeH 7 20 (.bool false) rfl rfl (by kernel_rfl) (by kernel_rfl) (by kernel_rfl) (fun _ _ _ h => h) (Or.inl ⟨by kernel_rfl, fun W _ => by go_simp⟩) hS ?_
    simp only [Act.put, List.setIfInBounds_toArray, List.set_cons_zero, List.set_cons_succ]
    refine takeH 8 21 (.bool false) rfl rfl (by kernel_rfl) (by kernel_rfl) (by kernel_rfl) (fun _ _ _ h => h) (Or.inl ⟨by kernel_rfl, fun W _ => by go_simp⟩) hS ?_
    simp only [Act.put, List.setIfInBounds_toArray, List.set_cons_zero, List.set_cons_succ]
    refine takeH 9 22 (.string (str c)) rfl rfl (by kernel_rfl) (by kernel_rfl) (by kernel_rfl) (fun _ _ _ h => h) (Or.inl ⟨by kernel_rfl, fun W _ => by go_simp⟩) hS ?_
    simp only [Act.put, List.setIfInBounds_toArray, List.set_cons_zero, List.set_cons_succ]
    refine takeH 10 23 (.int .i64 ((k : Int) + 1)) rfl rfl (by kernel_rfl) (by kernel_rfl) (by kernel_rfl) (fun _ _ _ h => h) (Or.inl ⟨by kernel_rfl, fun W _ => by go_simp⟩) hS ?_
    simp only [Act.put, List.setIfInBounds_toArray, List.set_cons_zero, List.set_cons_succ]
    refine takeH 11 24 (.string (str r)) rfl rfl (by kernel_rfl) (by kernel_rfl) (by kernel_rfl) (fun _ _ _ h => h) ((YieldsIf_from (l := c) (r := r) (k := (k : Int) + 1) (Operand.tmp 22) (Operand.tmp 23) rfl (by kernel_rfl) (by kernel_rfl) (by kernel_rfl) (by omega) (by omega) (by rw [show ((k : Int) + 1).toNat = k + 1 by omega]; exact HQ3.out))) hS ?_
    simp only [Act.put, List.setIfInBounds_toArray, List.set_cons_zero, List.set_cons_succ]
    refine wpAnyH_ready (rs := [12]) (by kernel_rfl) (by simp) ?_
    refine AllReadyH.cons rfl (fun K hK => ?_) AllReadyH.nil
    go_simp
    refine (hsl _).mono ?_
    rintro e x2 ⟨rfl, hx2⟩
    refine hK.out _ _ (by rw [hx2]; exact hS) (fun hS => ?_)
    clear hK K
    refine takeH 13 26 (.bool false) rfl rfl (by kernel_rfl) (by kernel_rfl) (by kernel_rfl) (fun _ _ _ h => h) (Or.inl ⟨by kernel_rfl, fun W _ => by go_simp⟩) hS ?_
    simp only [Act.put, List.setIfInBounds_toArray, List.set_cons_zero, List.set_cons_succ]
    refine wpAnyH_done (by kernel_rfl) ?_ _
    go_wp2
    go_meet
    case rel => exact ⟨rfl, (hS1 _).1 hS⟩
  case rest =>
    obtain ⟨rfl, hT⟩ := hcut
    go_upto_region 5 with fail
    refine wp_region_any (by kernel_rfl) ?_
    change wpAny _ _ _ _ _ _ _ (World.drew _)
    have hTd := hT.step ((Below.refl _ _).drew)
    refine wpAny_take (i := 1) rfl (by kernel_rfl) (by kernel_rfl) (by kernel_rfl) (fun _ _ _ h => h) (y_move (v := .string (str c)) _ rfl rfl rfl) ?_
    refine wpAny_take (i := 2) rfl (by kernel_rfl) (by kernel_rfl) (by kernel_rfl) (fun _ _ _ h => h) (y_move (v := .int .i64 ((k : Int) + 1)) _ rfl rfl rfl) ?_
    refine wpAny_take (i := 3) rfl (by kernel_rfl) (by kernel_rfl) (by kernel_rfl) (fun _ _ _ h => h) (y_slice_from (l := c) (r := r) (k := (k : Int) + 1) _ _ rfl rfl rfl rfl (by omega) (by omega) (by rw [show ((k : Int) + 1).toNat = k + 1 by omega]; exact HQ3.out)) ?_
    refine any_load_U 0 (by kernel_rfl) rfl (Operand.tmp 2) rfl rfl w.heap.size b (by go_simp) hTd.at_ ?_
    refine wpAny_ready (rs := [4]) (by kernel_rfl) (by simp) ?_
    refine AllReady.cons rfl (fun K hK => ?_) AllReady.nil
    go_simp
    refine (IH _).mono ?_
    rintro e w7 ⟨rfl, hb7⟩
    refine hK _ _ ?_
    clear hK K
    have hT7 := hTd.step hb7
    refine wpAny_take (i := 5) rfl (by kernel_rfl) (by kernel_rfl) (by kernel_rfl) (fun _ _ _ h => h) (y_extract (vs := #[uVal v, .int .i64 ev]) (v := uVal v) _ _ rfl rfl rfl rfl) ?_
    refine wpAny_take (i := 6) rfl (by kernel_rfl) (by kernel_rfl) (by kernel_rfl) (fun _ _ _ h => h) (y_extract (vs := #[uVal v, .int .i64 ev]) (v := .int .i64 ev) _ _ rfl rfl rfl rfl) ?_
    refine any_store_U 7 (by kernel_rfl) rfl (Operand.tmp 4) (Operand.tmp 36) rfl rfl (w.heap.size + 1) v Url.zero (by go_simp) (by go_simp) hT7.res ?_
    refine wpAny_take (i := 8) rfl (by kernel_rfl) (by kernel_rfl) (by kernel_rfl) (fun _ _ _ h => h) (y_assign (v := .int .i64 ev) _ rfl rfl rfl) ?_
    refine wpAny_done (by kernel_rfl) ?_ _
    have hR := setRow_U (v := v) hT7.res
    have hbf := below_setRow hT7.bel (show w.heap.size ≤ w.heap.size + 1 by omega) (uCells v)
    generalize World.setRow w7 (w.heap.size + 1) (uCells v) = w8 at hR hbf ⊢
    go_wp2
    exact ret_U2 (u := v) rfl rfl rfl rfl hR ⟨rfl, hbf⟩
end Go.Proofs.YtnmkhbelmdokmaaGreatDoor
/- Contracts of the reference's joined of layer 5: links without a scheme. -/
namespace Go.Proofs.YtnmkhbelmdokmaaGreatDoor
open Go.RowKit
set_option maxHeartbeats 8000000 in
set_option maxRecDepth 100000 in
theorem RJoined_place (b : Url.U) (x : UInt8) (t : List UInt8) (w : World) (g : Url.Good b) (hc : (x :: t).length ≤ 2048) (hs : Url.hasSch (x :: t) = false) (h2 : Url.slash x = true) (h3 : Url.slashed t = true) :
    Calls Tryz.prog 50 #[uVal b, .string (str (x :: t))] w fun e w' => e = .returned (.tuple #[uVal (Url.parse (b.sch ++ 58 :: x :: t)), .int .i64 (Url.perr (b.sch ++ 58 :: x :: t))]) ∧ Below w.heap.size w w' := by
  have hzu := (zero_of_info zeroURL).1
  have hT : TU w.heap.size w ((w.alloc (.cells (uCells b) 25)).alloc (.cells (uCells Url.zero) 25)) b :=
    ⟨UAt.below (heap_alloc_last _ _) ((Below.refl _ _).alloc (Nat.le_refl _) _), alloc_two _ _ _, ((Below.refl _ w).alloc (Nat.le_refl _) _).alloc (by simp) _⟩
  have schc : ∀ W : World, Calls Tryz.prog 36 #[.string (str (x :: t))] W fun e w' => e = .returned (.int .i64 0) ∧ w' = W := fun W => by
    have := RScheme_any (x :: t) W (by omega)
    rw [(Url.schemeN_zero (x :: t)).2 (fun h => by rw [← Url.hasSch_iff, hs] at h; cases h)] at this
    exact this
  have hsl := (good_fits g).2.2
  have sl1 : ∀ W : World, Calls Tryz.prog 52 #[.string (str (x :: t))] W fun e w' => e = .returned (.bool true) ∧ w' = W := fun W => by
    have := RSlash5_any (x :: t) W
    rw [show Url.slashed (x :: t) = true from h2] at this
    exact this
  have sl2 : ∀ W : World, Calls Tryz.prog 52 #[.string (str t)] W fun e w' => e = .returned (.bool true) ∧ w' = W := fun W => by
    have := RSlash5_any t W
    rw [h3] at this
    exact this
  have parc : ∀ W : World, Calls Tryz.prog 12 #[.string (str (b.sch ++ 58 :: x :: t))] W fun e w' => e = .returned (.tuple #[uVal (Url.parse (b.sch ++ 58 :: x :: t)), .int .i64 (Url.perr (b.sch ++ 58 :: x :: t))]) ∧ Below W.heap.size W w' := fun W => RParse_any _ W (by rw [List.length_append, List.length_cons]; omega)
  generalize Url.parse (b.sch ++ 58 :: x :: t) = p at *
  generalize Url.perr (b.sch ++ 58 :: x :: t) = pe at *
  have hs1 : (str (x :: t)).size = t.length + 1 := str_size _
  have hext1 : (str (x :: t)).extract 1 (t.length + 1) = str t := str_from (x :: t) 1
  have hat := str_first x t
  have he := empty_isnt (l := x :: t) (by simp)
  have h1le : (1 : Int) ≤ ((t.length + 1 : Nat) : Int) := by omega
  have h1le2 : (1 : Int) ≤ (t.length : Int) + 1 := by omega
  have hctl : t.length + 1 ≤ 2048 := hc
  have hadd : str b.sch ++ (⟨#[58]⟩ : ByteArray) = str (b.sch ++ [58]) := str_add b.sch [58]
  have hadd2 : str (b.sch ++ [58]) ++ str (x :: t) = str (b.sch ++ 58 :: x :: t) := by rw [str_add]; congr 1; simp
  have hz1 : (str b.sch).size ≤ 2048 := by rw [str_size]; exact hsl
  have hz2 : (str (b.sch ++ [58])).size ≤ 2049 := by rw [str_size, List.length_append]; simp only [List.length_cons, List.length_nil]; omega
  have hz3 : (⟨#[58]⟩ : ByteArray).size = 1 := rfl
  clear h2 h3 hs
  generalize b.sch ++ 58 :: x :: t = full at *
  generalize b.sch ++ [58] = half at *
  unfold uVal at hzu
  unfold uVal
  unfold uCells at hzu hT ⊢
  go_enter Tryz.func50, Tryz.ntmps50
  go_upto_region 1 with fail
  generalize (w.alloc (.cells #[.string (str b.sch), .string (str b.host), .int .i64 b.port, .string (str b.path), .string (str b.query), .string (str b.frag), .bool b.hq, .bool b.hf] 25)).alloc (.cells #[.string (str Url.zero.sch), .string (str Url.zero.host), .int .i64 Url.zero.port, .string (str Url.zero.path), .string (str Url.zero.query), .string (str Url.zero.frag), .bool Url.zero.hq, .bool Url.zero.hf] 25) = w0 at hT ⊢
  go_upto_region 7 with (first
    | (go_at_call 36; refine (schc _).mono ?_; rintro e w2 ⟨rfl, hw2⟩; rw [hw2]; clear hw2)
    | (go_at_call_of 52 (str (x :: t)); refine (sl1 _).mono ?_; rintro e w3 ⟨rfl, hw3⟩; rw [hw3]; clear hw3)
    | (go_at_call_of 52 (str t); refine (sl2 _).mono ?_; rintro e w3 ⟨rfl, hw3⟩; rw [hw3]; clear hw3))
  have c0 : w0.cell? ⟨w.heap.size, 0, none⟩ = some (.string (str b.sch)) := hT.at_.cell 0
  go_wp2_with (first
    | (go_at_call 12; refine (parc _).mono ?_; rintro e w5 ⟨rfl, hb5⟩; replace hT := hT.step hb5; clear hb5)
    | ((with_reducible show wpList _ _ _ ({ dst := _, op := Op.store 25 (Operand.tmp 4) _, type := _, pos := _, after := _, guard := _ } :: _) _ _); refine wpList_store_U _ _ rfl rfl (w.heap.size + 1) p Url.zero rfl rfl hT.res ?_))
  refine ret_U2 (u := p) rfl rfl rfl rfl (setRow_U hT.res) ⟨?_, below_setRow hT.bel (by omega) _⟩
  rfl
set_option maxHeartbeats 8000000 in
set_option maxRecDepth 100000 in
theorem RJoined_nil (b : Url.U) (_d : Unit) (w : World) (_g : Url.Good b) (hc : (([] : List UInt8)).length ≤ 2048) :
    Calls Tryz.prog 50 #[uVal b, .string (str (([] : List UInt8)))] w fun e w' => e = .returned (.tuple #[uVal (Url.bare b), .int .i64 (0)]) ∧ Below w.heap.size w w' := by
  have hzu := (zero_of_info zeroURL).1
  have hT : TU w.heap.size w ((w.alloc (.cells (uCells b) 25)).alloc (.cells (uCells Url.zero) 25)) b :=
    ⟨UAt.below (heap_alloc_last _ _) ((Below.refl _ _).alloc (Nat.le_refl _) _), alloc_two _ _ _, ((Below.refl _ w).alloc (Nat.le_refl _) _).alloc (by simp) _⟩
  have schc : ∀ W : World, Calls Tryz.prog 36 #[.string (str (([] : List UInt8)))] W fun e w' => e = .returned (.int .i64 0) ∧ w' = W := fun W => by
    have := RScheme_any (([] : List UInt8)) W (by omega)
    rw [(Url.schemeN_zero (([] : List UInt8))).2 (fun h => by exact absurd ((Url.hasSch_iff _).2 h) (by decide))] at this
    exact this
  have sl1 : ∀ W : World, Calls Tryz.prog 52 #[.string (str (([] : List UInt8)))] W fun e w' => e = .returned (.bool false) ∧ w' = W := fun W => by
    have := RSlash5_any (([] : List UInt8)) W
    rw [show Url.slashed (([] : List UInt8)) = false from rfl] at this
    exact this
  have he := empty_is (l := []) rfl
  unfold uVal at hzu
  unfold uVal
  unfold uCells at hzu hT ⊢
  go_enter Tryz.func50, Tryz.ntmps50
  go_upto_region 1 with fail
  generalize (w.alloc (.cells #[.string (str b.sch), .string (str b.host), .int .i64 b.port, .string (str b.path), .string (str b.query), .string (str b.frag), .bool b.hq, .bool b.hf] 25)).alloc (.cells #[.string (str Url.zero.sch), .string (str Url.zero.host), .int .i64 Url.zero.port, .string (str Url.zero.path), .string (str Url.zero.query), .string (str Url.zero.frag), .bool Url.zero.hq, .bool Url.zero.hf] 25) = w0 at hT ⊢
  go_upto_region 9 with (first
    | (go_at_call 36; refine (schc _).mono ?_; rintro e w2 ⟨rfl, hw2⟩; rw [hw2]; clear hw2)
    | (go_at_call 52; refine (sl1 _).mono ?_; rintro e w3 ⟨rfl, hw3⟩; rw [hw3]; clear hw3)
    | ((with_reducible show wpList _ _ _ ({ dst := _, op := Op.load 25 (Operand.tmp 2), type := _, pos := _, after := _, guard := _ } :: _) _ _); refine wpList_load_Ug _ rfl (by rfl) (w.heap.size) b rfl hT.at_ ?_)
    | ((with_reducible show wpList _ _ _ ({ dst := _, op := Op.store 25 (Operand.tmp 7) _, type := _, pos := _, after := _, guard := _ } :: _) _ _); refine wpList_store_U _ _ rfl rfl _ b Url.zero rfl rfl (heap_alloc_last _ _) ?_; have hV := setRow_U (v := b) (u := Url.zero) (heap_alloc_last w0 (.cells #[.string (str Url.zero.sch), .string (str Url.zero.host), .int .i64 Url.zero.port, .string (str Url.zero.path), .string (str Url.zero.query), .string (str Url.zero.frag), .bool Url.zero.hq, .bool Url.zero.hf] 25)); have hs0 := below_setRow ((Below.refl _ w0).alloc (Nat.le_refl _) (.cells #[.string (str Url.zero.sch), .string (str Url.zero.host), .int .i64 Url.zero.port, .string (str Url.zero.path), .string (str Url.zero.query), .string (str Url.zero.frag), .bool Url.zero.hq, .bool Url.zero.hf] 25)) (Nat.le_refl _) (uCells b); have hlt := hT.res.lt; replace hT := hT.step hs0; generalize World.setRow (World.alloc w0 (.cells #[.string (str Url.zero.sch), .string (str Url.zero.host), .int .i64 Url.zero.port, .string (str Url.zero.path), .string (str Url.zero.query), .string (str Url.zero.frag), .bool Url.zero.hq, .bool Url.zero.hf] 25)) (World.heap w0).size (uCells b) = w1 at hV hT ⊢; generalize (World.heap w0).size = b7 at hV hlt ⊢; clear hs0))
  have f7 := hV.frozen 7
  have f5 := (hV.hf false).frozen 5
  have x7 := hV.cell 7
  have x5 := (hV.hf false).cell 5
  simp only [uCells] at x7 x5
  go_upto_region 14 with fail
  have hV2 : UAt ((w1.setCell ⟨b7, 7, none⟩ (.bool false)).setCell ⟨b7, 5, none⟩ (.string ⟨#[]⟩)) b7 (Url.bare b) := (hV.hf false).frag []
  have hT2 : TU w.heap.size w ((w1.setCell ⟨b7, 7, none⟩ (.bool false)).setCell ⟨b7, 5, none⟩ (.string ⟨#[]⟩)) b := (hT.cell hlt _).cell hlt _
  generalize (w1.setCell ⟨b7, 7, none⟩ (.bool false)).setCell ⟨b7, 5, none⟩ (.string ⟨#[]⟩) = w2 at hV2 hT2 ⊢
  clear hV hT f7 f5 x7 x5
  rename UAt w2 b7 (Url.bare b) => hV
  rename TU w.heap.size w w2 b => hT
  go_wp2_with (first
    | ((with_reducible show wpList _ _ _ ({ dst := _, op := Op.load 25 (Operand.tmp 7), type := _, pos := _, after := _, guard := _ } :: _) _ _); refine wpList_load_Ug _ rfl (by rfl) (b7) (Url.bare b) rfl hV ?_)
    | ((with_reducible show wpList _ _ _ ({ dst := _, op := Op.store 25 (Operand.tmp 4) _, type := _, pos := _, after := _, guard := _ } :: _) _ _); refine wpList_store_U _ _ rfl rfl (w.heap.size + 1) (Url.bare b) Url.zero rfl rfl hT.res ?_))
  refine ret_U2 (u := Url.bare b) rfl rfl rfl rfl (setRow_U hT.res) ⟨?_, below_setRow hT.bel (by omega) _⟩
  rfl
set_option maxHeartbeats 8000000 in
set_option maxRecDepth 100000 in
theorem RJoined_path_much (b : Url.U) (x : UInt8) (t : List UInt8) (w : World) (g : Url.Good b) (hc : (x :: t).length ≤ 2048) (hs : Url.hasSch (x :: t) = false) (h35 : ¬ x = 35) (h63 : ¬ x = 63) (h2 : Url.slash x = true) (h3 : Url.slashed t = false) (hm : 2048 < (Url.str (Url.turned b (x :: t))).length) :
    Calls Tryz.prog 50 #[uVal b, .string (str (x :: t))] w fun e w' => e = .returned (.tuple #[uVal (Url.zero), .int .i64 (5)]) ∧ Below w.heap.size w w' := by
  have hzu := (zero_of_info zeroURL).1
  have hT : TU w.heap.size w ((w.alloc (.cells (uCells b) 25)).alloc (.cells (uCells Url.zero) 25)) b :=
    ⟨UAt.below (heap_alloc_last _ _) ((Below.refl _ _).alloc (Nat.le_refl _) _), alloc_two _ _ _, ((Below.refl _ w).alloc (Nat.le_refl _) _).alloc (by simp) _⟩
  have schc : ∀ W : World, Calls Tryz.prog 36 #[.string (str (x :: t))] W fun e w' => e = .returned (.int .i64 0) ∧ w' = W := fun W => by
    have := RScheme_any (x :: t) W (by omega)
    rw [(Url.schemeN_zero (x :: t)).2 (fun h => by rw [← Url.hasSch_iff, hs] at h; cases h)] at this
    exact this
  have hs1 : (str (x :: t)).size = t.length + 1 := str_size _
  have hext1 : (str (x :: t)).extract 1 (t.length + 1) = str t := str_from (x :: t) 1
  have hat := str_first x t
  have he := empty_isnt (l := x :: t) (by simp)
  have h1le : (1 : Int) ≤ ((t.length + 1 : Nat) : Int) := by omega
  have h1le2 : (1 : Int) ≤ (t.length : Int) + 1 := by omega
  have hctl : t.length + 1 ≤ 2048 := hc
  have hstl := stay_len b (x :: t) g
  have hfit : Fits (Url.turned b (x :: t)) := tail_fits (Nat.le_trans (good_fits g).2.2 (by decide)) (by have := g.len; rw [Url.str_parts] at this; simp only [List.length_append, List.length_cons] at this; omega) (good_fits g).1.2.2.2.2.2.1 (good_fits g).1.2.2.2.2.2.2 (by rw [List.length_append]; omega)
  have stc : ∀ W : World, Calls Tryz.prog 13 #[uVal (Url.turned b (x :: t))] W fun e w' => e = .returned (.string (str (Url.str (Url.turned b (x :: t))))) ∧ Below W.heap.size W w' := fun W => RString_any _ W hfit
  have hss := str_size (Url.str (Url.turned b (x :: t)))
  clear hfit hstl
  have n35 : ((x.toNat : Int) == 35) = false := byte_neq (m := 35) h35
  have n63 : ((x.toNat : Int) == 63) = false := byte_neq (m := 63) h63
  have sl1 : ∀ W : World, Calls Tryz.prog 52 #[.string (str (x :: t))] W fun e w' => e = .returned (.bool true) ∧ w' = W := fun W => by
    have := RSlash5_any (x :: t) W
    rw [show Url.slashed (x :: t) = true from h2] at this
    exact this
  have sl2 : ∀ W : World, Calls Tryz.prog 52 #[.string (str t)] W fun e w' => e = .returned (.bool false) ∧ w' = W := fun W => by
    have := RSlash5_any t W
    rw [h3] at this
    exact this
  have tlc : ∀ W : World, Calls Tryz.prog 41 #[uVal (Url.bare b), .string (str (x :: t))] W fun e w' => e = .returned (uVal (Url.tail b (x :: t))) ∧ Below W.heap.size W w' := fun W => RTail_any (Url.bare b) (x :: t) W (by omega)
  rw [← Url.turned_slash b h2 t] at tlc
  clear h35 h63 h2 h3 hs
  generalize Url.turned b (x :: t) = v at *
  have hm2 : (2048 : Int) < ((Url.str v).length : Int) := by omega
  clear hm
  generalize Url.str v = ss at *
  unfold uVal at hzu
  unfold uVal
  unfold uCells at hzu hT ⊢
  go_enter Tryz.func50, Tryz.ntmps50
  go_upto_region 1 with fail
  generalize (w.alloc (.cells #[.string (str b.sch), .string (str b.host), .int .i64 b.port, .string (str b.path), .string (str b.query), .string (str b.frag), .bool b.hq, .bool b.hf] 25)).alloc (.cells #[.string (str Url.zero.sch), .string (str Url.zero.host), .int .i64 Url.zero.port, .string (str Url.zero.path), .string (str Url.zero.query), .string (str Url.zero.frag), .bool Url.zero.hq, .bool Url.zero.hf] 25) = w0 at hT ⊢
  go_upto_region 9 with (first
    | (go_at_call 36; refine (schc _).mono ?_; rintro e w2 ⟨rfl, hw2⟩; rw [hw2]; clear hw2)
    | (go_at_call_of 52 (str (x :: t)); refine (sl1 _).mono ?_; rintro e w3 ⟨rfl, hw3⟩; rw [hw3]; clear hw3)
    | (go_at_call_of 52 (str t); refine (sl2 _).mono ?_; rintro e w3 ⟨rfl, hw3⟩; rw [hw3]; clear hw3)
    | ((with_reducible show wpList _ _ _ ({ dst := _, op := Op.load 25 (Operand.tmp 2), type := _, pos := _, after := _, guard := _ } :: _) _ _); refine wpList_load_Ug _ rfl (by rfl) (w.heap.size) b rfl hT.at_ ?_)
    | ((with_reducible show wpList _ _ _ ({ dst := _, op := Op.store 25 (Operand.tmp 7) _, type := _, pos := _, after := _, guard := _ } :: _) _ _); refine wpList_store_U _ _ rfl rfl _ b Url.zero rfl rfl (heap_alloc_last _ _) ?_; have hV := setRow_U (v := b) (u := Url.zero) (heap_alloc_last w0 (.cells #[.string (str Url.zero.sch), .string (str Url.zero.host), .int .i64 Url.zero.port, .string (str Url.zero.path), .string (str Url.zero.query), .string (str Url.zero.frag), .bool Url.zero.hq, .bool Url.zero.hf] 25)); have hs0 := below_setRow ((Below.refl _ w0).alloc (Nat.le_refl _) (.cells #[.string (str Url.zero.sch), .string (str Url.zero.host), .int .i64 Url.zero.port, .string (str Url.zero.path), .string (str Url.zero.query), .string (str Url.zero.frag), .bool Url.zero.hq, .bool Url.zero.hf] 25)) (Nat.le_refl _) (uCells b); have hlt := hT.res.lt; replace hT := hT.step hs0; generalize World.setRow (World.alloc w0 (.cells #[.string (str Url.zero.sch), .string (str Url.zero.host), .int .i64 Url.zero.port, .string (str Url.zero.path), .string (str Url.zero.query), .string (str Url.zero.frag), .bool Url.zero.hq, .bool Url.zero.hf] 25)) (World.heap w0).size (uCells b) = w1 at hV hT ⊢; generalize (World.heap w0).size = b7 at hV hlt ⊢; clear hs0))
  have f7 := hV.frozen 7
  have f5 := (hV.hf false).frozen 5
  have x7 := hV.cell 7
  have x5 := (hV.hf false).cell 5
  simp only [uCells] at x7 x5
  go_upto_region 14 with fail
  have hV2 : UAt ((w1.setCell ⟨b7, 7, none⟩ (.bool false)).setCell ⟨b7, 5, none⟩ (.string ⟨#[]⟩)) b7 (Url.bare b) := (hV.hf false).frag []
  have hT2 : TU w.heap.size w ((w1.setCell ⟨b7, 7, none⟩ (.bool false)).setCell ⟨b7, 5, none⟩ (.string ⟨#[]⟩)) b := (hT.cell hlt _).cell hlt _
  generalize (w1.setCell ⟨b7, 7, none⟩ (.bool false)).setCell ⟨b7, 5, none⟩ (.string ⟨#[]⟩) = w2 at hV2 hT2 ⊢
  clear hV hT f7 f5 x7 x5
  rename UAt w2 b7 (Url.bare b) => hV
  rename TU w.heap.size w w2 b => hT
  go_upto_region 24 with (first
    | (go_at_call_of 52 (str (x :: t)); refine (sl1 _).mono ?_; rintro e w3 ⟨rfl, hw3⟩; rw [hw3]; clear hw3)
    | ((with_reducible show wpList _ _ _ ({ dst := _, op := Op.load 25 (Operand.tmp 7), type := _, pos := _, after := _, guard := _ } :: _) _ _); refine wpList_load_Ug _ rfl (by rfl) (b7) (Url.bare b) rfl hV ?_)
    | (go_at_call 41; refine (tlc _).mono ?_; rintro e w4 ⟨rfl, hb4⟩; replace hV := hV.below hb4; replace hT := hT.step hb4; clear hb4)
    | ((with_reducible show wpList _ _ _ ({ dst := _, op := Op.store 25 (Operand.tmp 7) _, type := _, pos := _, after := _, guard := _ } :: _) _ _); refine wpList_store_U _ _ rfl rfl b7 (v) (Url.bare b) rfl rfl hV ?_; have hV2 := setRow_U (v := v) hV; have hT2 := hT.setRow hlt (v); generalize World.setRow w4 b7 (uCells (v)) = w5 at hV2 hT2 ⊢; clear hV hT; rename UAt w5 b7 (v) => hV; rename TU w.heap.size w w5 b => hT))
  go_wp2_with (first
    | ((with_reducible show wpList _ _ _ ({ dst := _, op := Op.load 25 (Operand.tmp 7), type := _, pos := _, after := _, guard := _ } :: _) _ _); refine wpList_load_Ug _ rfl (by rfl) (b7) v rfl hV ?_)
    | (go_at_call 13; refine (stc _).mono ?_; rintro e w9 ⟨rfl, hb9⟩; replace hV := hV.below hb9; replace hT := hT.step hb9; clear hb9)
    | ((with_reducible show wpList _ _ _ ({ dst := _, op := Op.store 25 (Operand.tmp 4) _, type := _, pos := _, after := _, guard := _ } :: _) _ _); refine wpList_store_U _ _ rfl rfl (w.heap.size + 1) Url.zero Url.zero rfl rfl hT.res ?_))
  refine ret_U2 (u := Url.zero) rfl rfl rfl rfl (setRow_U hT.res) ⟨?_, below_setRow hT.bel (by omega) _⟩
  rfl
set_option maxHeartbeats 8000000 in
set_option maxRecDepth 100000 in
theorem RJoined_path_fine (b : Url.U) (x : UInt8) (t : List UInt8) (w : World) (g : Url.Good b) (hc : (x :: t).length ≤ 2048) (hs : Url.hasSch (x :: t) = false) (h35 : ¬ x = 35) (h63 : ¬ x = 63) (h2 : Url.slash x = true) (h3 : Url.slashed t = false) (hm : ¬ 2048 < (Url.str (Url.turned b (x :: t))).length) :
    Calls Tryz.prog 50 #[uVal b, .string (str (x :: t))] w fun e w' => e = .returned (.tuple #[uVal (Url.turned b (x :: t)), .int .i64 (0)]) ∧ Below w.heap.size w w' := by
  have hzu := (zero_of_info zeroURL).1
  have hT : TU w.heap.size w ((w.alloc (.cells (uCells b) 25)).alloc (.cells (uCells Url.zero) 25)) b :=
    ⟨UAt.below (heap_alloc_last _ _) ((Below.refl _ _).alloc (Nat.le_refl _) _), alloc_two _ _ _, ((Below.refl _ w).alloc (Nat.le_refl _) _).alloc (by simp) _⟩
  have schc : ∀ W : World, Calls Tryz.prog 36 #[.string (str (x :: t))] W fun e w' => e = .returned (.int .i64 0) ∧ w' = W := fun W => by
    have := RScheme_any (x :: t) W (by omega)
    rw [(Url.schemeN_zero (x :: t)).2 (fun h => by rw [← Url.hasSch_iff, hs] at h; cases h)] at this
    exact this
  have hs1 : (str (x :: t)).size = t.length + 1 := str_size _
  have hext1 : (str (x :: t)).extract 1 (t.length + 1) = str t := str_from (x :: t) 1
  have hat := str_first x t
  have he := empty_isnt (l := x :: t) (by simp)
  have h1le : (1 : Int) ≤ ((t.length + 1 : Nat) : Int) := by omega
  have h1le2 : (1 : Int) ≤ (t.length : Int) + 1 := by omega
  have hctl : t.length + 1 ≤ 2048 := hc
  have hstl := stay_len b (x :: t) g
  have hfit : Fits (Url.turned b (x :: t)) := tail_fits (Nat.le_trans (good_fits g).2.2 (by decide)) (by have := g.len; rw [Url.str_parts] at this; simp only [List.length_append, List.length_cons] at this; omega) (good_fits g).1.2.2.2.2.2.1 (good_fits g).1.2.2.2.2.2.2 (by rw [List.length_append]; omega)
  have stc : ∀ W : World, Calls Tryz.prog 13 #[uVal (Url.turned b (x :: t))] W fun e w' => e = .returned (.string (str (Url.str (Url.turned b (x :: t))))) ∧ Below W.heap.size W w' := fun W => RString_any _ W hfit
  have hss := str_size (Url.str (Url.turned b (x :: t)))
  clear hfit hstl
  have n35 : ((x.toNat : Int) == 35) = false := byte_neq (m := 35) h35
  have n63 : ((x.toNat : Int) == 63) = false := byte_neq (m := 63) h63
  have sl1 : ∀ W : World, Calls Tryz.prog 52 #[.string (str (x :: t))] W fun e w' => e = .returned (.bool true) ∧ w' = W := fun W => by
    have := RSlash5_any (x :: t) W
    rw [show Url.slashed (x :: t) = true from h2] at this
    exact this
  have sl2 : ∀ W : World, Calls Tryz.prog 52 #[.string (str t)] W fun e w' => e = .returned (.bool false) ∧ w' = W := fun W => by
    have := RSlash5_any t W
    rw [h3] at this
    exact this
  have tlc : ∀ W : World, Calls Tryz.prog 41 #[uVal (Url.bare b), .string (str (x :: t))] W fun e w' => e = .returned (uVal (Url.tail b (x :: t))) ∧ Below W.heap.size W w' := fun W => RTail_any (Url.bare b) (x :: t) W (by omega)
  rw [← Url.turned_slash b h2 t] at tlc
  clear h35 h63 h2 h3 hs
  generalize Url.turned b (x :: t) = v at *
  have hm2 : ¬ (2048 : Int) < ((Url.str v).length : Int) := by omega
  clear hm
  generalize Url.str v = ss at *
  unfold uVal at hzu
  unfold uVal
  unfold uCells at hzu hT ⊢
  go_enter Tryz.func50, Tryz.ntmps50
  go_upto_region 1 with fail
  generalize (w.alloc (.cells #[.string (str b.sch), .string (str b.host), .int .i64 b.port, .string (str b.path), .string (str b.query), .string (str b.frag), .bool b.hq, .bool b.hf] 25)).alloc (.cells #[.string (str Url.zero.sch), .string (str Url.zero.host), .int .i64 Url.zero.port, .string (str Url.zero.path), .string (str Url.zero.query), .string (str Url.zero.frag), .bool Url.zero.hq, .bool Url.zero.hf] 25) = w0 at hT ⊢
  go_upto_region 9 with (first
    | (go_at_call 36; refine (schc _).mono ?_; rintro e w2 ⟨rfl, hw2⟩; rw [hw2]; clear hw2)
    | (go_at_call_of 52 (str (x :: t)); refine (sl1 _).mono ?_; rintro e w3 ⟨rfl, hw3⟩; rw [hw3]; clear hw3)
    | (go_at_call_of 52 (str t); refine (sl2 _).mono ?_; rintro e w3 ⟨rfl, hw3⟩; rw [hw3]; clear hw3)
    | ((with_reducible show wpList _ _ _ ({ dst := _, op := Op.load 25 (Operand.tmp 2), type := _, pos := _, after := _, guard := _ } :: _) _ _); refine wpList_load_Ug _ rfl (by rfl) (w.heap.size) b rfl hT.at_ ?_)
    | ((with_reducible show wpList _ _ _ ({ dst := _, op := Op.store 25 (Operand.tmp 7) _, type := _, pos := _, after := _, guard := _ } :: _) _ _); refine wpList_store_U _ _ rfl rfl _ b Url.zero rfl rfl (heap_alloc_last _ _) ?_; have hV := setRow_U (v := b) (u := Url.zero) (heap_alloc_last w0 (.cells #[.string (str Url.zero.sch), .string (str Url.zero.host), .int .i64 Url.zero.port, .string (str Url.zero.path), .string (str Url.zero.query), .string (str Url.zero.frag), .bool Url.zero.hq, .bool Url.zero.hf] 25)); have hs0 := below_setRow ((Below.refl _ w0).alloc (Nat.le_refl _) (.cells #[.string (str Url.zero.sch), .string (str Url.zero.host), .int .i64 Url.zero.port, .string (str Url.zero.path), .string (str Url.zero.query), .string (str Url.zero.frag), .bool Url.zero.hq, .bool Url.zero.hf] 25)) (Nat.le_refl _) (uCells b); have hlt := hT.res.lt; replace hT := hT.step hs0; generalize World.setRow (World.alloc w0 (.cells #[.string (str Url.zero.sch), .string (str Url.zero.host), .int .i64 Url.zero.port, .string (str Url.zero.path), .string (str Url.zero.query), .string (str Url.zero.frag), .bool Url.zero.hq, .bool Url.zero.hf] 25)) (World.heap w0).size (uCells b) = w1 at hV hT ⊢; generalize (World.heap w0).size = b7 at hV hlt ⊢; clear hs0))
  have f7 := hV.frozen 7
  have f5 := (hV.hf false).frozen 5
  have x7 := hV.cell 7
  have x5 := (hV.hf false).cell 5
  simp only [uCells] at x7 x5
  go_upto_region 14 with fail
  have hV2 : UAt ((w1.setCell ⟨b7, 7, none⟩ (.bool false)).setCell ⟨b7, 5, none⟩ (.string ⟨#[]⟩)) b7 (Url.bare b) := (hV.hf false).frag []
  have hT2 : TU w.heap.size w ((w1.setCell ⟨b7, 7, none⟩ (.bool false)).setCell ⟨b7, 5, none⟩ (.string ⟨#[]⟩)) b := (hT.cell hlt _).cell hlt _
  generalize (w1.setCell ⟨b7, 7, none⟩ (.bool false)).setCell ⟨b7, 5, none⟩ (.string ⟨#[]⟩) = w2 at hV2 hT2 ⊢
  clear hV hT f7 f5 x7 x5
  rename UAt w2 b7 (Url.bare b) => hV
  rename TU w.heap.size w w2 b => hT
  go_upto_region 24 with (first
    | (go_at_call_of 52 (str (x :: t)); refine (sl1 _).mono ?_; rintro e w3 ⟨rfl, hw3⟩; rw [hw3]; clear hw3)
    | ((with_reducible show wpList _ _ _ ({ dst := _, op := Op.load 25 (Operand.tmp 7), type := _, pos := _, after := _, guard := _ } :: _) _ _); refine wpList_load_Ug _ rfl (by rfl) (b7) (Url.bare b) rfl hV ?_)
    | (go_at_call 41; refine (tlc _).mono ?_; rintro e w4 ⟨rfl, hb4⟩; replace hV := hV.below hb4; replace hT := hT.step hb4; clear hb4)
    | ((with_reducible show wpList _ _ _ ({ dst := _, op := Op.store 25 (Operand.tmp 7) _, type := _, pos := _, after := _, guard := _ } :: _) _ _); refine wpList_store_U _ _ rfl rfl b7 (v) (Url.bare b) rfl rfl hV ?_; have hV2 := setRow_U (v := v) hV; have hT2 := hT.setRow hlt (v); generalize World.setRow w4 b7 (uCells (v)) = w5 at hV2 hT2 ⊢; clear hV hT; rename UAt w5 b7 (v) => hV; rename TU w.heap.size w w5 b => hT))
  go_wp2_with (first
    | ((with_reducible show wpList _ _ _ ({ dst := _, op := Op.load 25 (Operand.tmp 7), type := _, pos := _, after := _, guard := _ } :: _) _ _); refine wpList_load_Ug _ rfl (by rfl) (b7) v rfl hV ?_)
    | (go_at_call 13; refine (stc _).mono ?_; rintro e w9 ⟨rfl, hb9⟩; replace hV := hV.below hb9; replace hT := hT.step hb9; clear hb9)
    | ((with_reducible show wpList _ _ _ ({ dst := _, op := Op.store 25 (Operand.tmp 4) _, type := _, pos := _, after := _, guard := _ } :: _) _ _); refine wpList_store_U _ _ rfl rfl (w.heap.size + 1) v Url.zero rfl rfl hT.res ?_))
  refine ret_U2 (u := v) rfl rfl rfl rfl (setRow_U hT.res) ⟨?_, below_setRow hT.bel (by omega) _⟩
  rfl
set_option maxHeartbeats 8000000 in
set_option maxRecDepth 100000 in
theorem RJoined_frag_much (b : Url.U) (x : UInt8) (t : List UInt8) (w : World) (g : Url.Good b) (hc : (x :: t).length ≤ 2048) (hs : Url.hasSch (x :: t) = false) (h35 : x = 35) (hm : 2048 < (Url.str (Url.turned b (x :: t))).length) :
    Calls Tryz.prog 50 #[uVal b, .string (str (x :: t))] w fun e w' => e = .returned (.tuple #[uVal (Url.zero), .int .i64 (5)]) ∧ Below w.heap.size w w' := by
  have hzu := (zero_of_info zeroURL).1
  have hT : TU w.heap.size w ((w.alloc (.cells (uCells b) 25)).alloc (.cells (uCells Url.zero) 25)) b :=
    ⟨UAt.below (heap_alloc_last _ _) ((Below.refl _ _).alloc (Nat.le_refl _) _), alloc_two _ _ _, ((Below.refl _ w).alloc (Nat.le_refl _) _).alloc (by simp) _⟩
  have schc : ∀ W : World, Calls Tryz.prog 36 #[.string (str (x :: t))] W fun e w' => e = .returned (.int .i64 0) ∧ w' = W := fun W => by
    have := RScheme_any (x :: t) W (by omega)
    rw [(Url.schemeN_zero (x :: t)).2 (fun h => by rw [← Url.hasSch_iff, hs] at h; cases h)] at this
    exact this
  have hs1 : (str (x :: t)).size = t.length + 1 := str_size _
  have hext1 : (str (x :: t)).extract 1 (t.length + 1) = str t := str_from (x :: t) 1
  have hat := str_first x t
  have he := empty_isnt (l := x :: t) (by simp)
  have h1le : (1 : Int) ≤ ((t.length + 1 : Nat) : Int) := by omega
  have h1le2 : (1 : Int) ≤ (t.length : Int) + 1 := by omega
  have hctl : t.length + 1 ≤ 2048 := hc
  have hstl := stay_len b (x :: t) g
  have hfit : Fits (Url.turned b (x :: t)) := tail_fits (Nat.le_trans (good_fits g).2.2 (by decide)) (by have := g.len; rw [Url.str_parts] at this; simp only [List.length_append, List.length_cons] at this; omega) (good_fits g).1.2.2.2.2.2.1 (good_fits g).1.2.2.2.2.2.2 (by rw [List.length_append]; omega)
  have stc : ∀ W : World, Calls Tryz.prog 13 #[uVal (Url.turned b (x :: t))] W fun e w' => e = .returned (.string (str (Url.str (Url.turned b (x :: t))))) ∧ Below W.heap.size W w' := fun W => RString_any _ W hfit
  have hss := str_size (Url.str (Url.turned b (x :: t)))
  clear hfit hstl
  have n35 : ((x.toNat : Int) == 35) = true := byte_eq (m := 35) h35
  have sl1 : ∀ W : World, Calls Tryz.prog 52 #[.string (str (x :: t))] W fun e w' => e = .returned (.bool false) ∧ w' = W := fun W => by
    have := RSlash5_any (x :: t) W
    rw [show Url.slashed (x :: t) = false from (by subst h35; rfl)] at this
    exact this
  have tlc : ∀ W : World, Calls Tryz.prog 41 #[uVal (Url.bare b), .string (str (x :: t))] W fun e w' => e = .returned (uVal (Url.tail b (x :: t))) ∧ Below W.heap.size W w' := fun W => RTail_any (Url.bare b) (x :: t) W (by omega)
  have HV : Hid ({ Url.tail b (x :: t) with path := b.path, hq := b.hq, query := b.query } = Url.turned b (x :: t)) := by
    show _ = _
    subst h35
    exact (Url.turned_frag g t).symm
  clear h35 hs
  generalize Url.tail b (x :: t) = tl at *
  generalize Url.turned b (x :: t) = v at *
  have hm2 : (2048 : Int) < ((Url.str v).length : Int) := by omega
  clear hm
  generalize Url.str v = ss at *
  unfold uVal at hzu
  unfold uVal
  unfold uCells at hzu hT ⊢
  go_enter Tryz.func50, Tryz.ntmps50
  go_upto_region 1 with fail
  generalize (w.alloc (.cells #[.string (str b.sch), .string (str b.host), .int .i64 b.port, .string (str b.path), .string (str b.query), .string (str b.frag), .bool b.hq, .bool b.hf] 25)).alloc (.cells #[.string (str Url.zero.sch), .string (str Url.zero.host), .int .i64 Url.zero.port, .string (str Url.zero.path), .string (str Url.zero.query), .string (str Url.zero.frag), .bool Url.zero.hq, .bool Url.zero.hf] 25) = w0 at hT ⊢
  go_upto_region 9 with (first
    | (go_at_call 36; refine (schc _).mono ?_; rintro e w2 ⟨rfl, hw2⟩; rw [hw2]; clear hw2)
    | (go_at_call_of 52 (str (x :: t)); refine (sl1 _).mono ?_; rintro e w3 ⟨rfl, hw3⟩; rw [hw3]; clear hw3)
    | ((with_reducible show wpList _ _ _ ({ dst := _, op := Op.load 25 (Operand.tmp 2), type := _, pos := _, after := _, guard := _ } :: _) _ _); refine wpList_load_Ug _ rfl (by rfl) (w.heap.size) b rfl hT.at_ ?_)
    | ((with_reducible show wpList _ _ _ ({ dst := _, op := Op.store 25 (Operand.tmp 7) _, type := _, pos := _, after := _, guard := _ } :: _) _ _); refine wpList_store_U _ _ rfl rfl _ b Url.zero rfl rfl (heap_alloc_last _ _) ?_; have hV := setRow_U (v := b) (u := Url.zero) (heap_alloc_last w0 (.cells #[.string (str Url.zero.sch), .string (str Url.zero.host), .int .i64 Url.zero.port, .string (str Url.zero.path), .string (str Url.zero.query), .string (str Url.zero.frag), .bool Url.zero.hq, .bool Url.zero.hf] 25)); have hs0 := below_setRow ((Below.refl _ w0).alloc (Nat.le_refl _) (.cells #[.string (str Url.zero.sch), .string (str Url.zero.host), .int .i64 Url.zero.port, .string (str Url.zero.path), .string (str Url.zero.query), .string (str Url.zero.frag), .bool Url.zero.hq, .bool Url.zero.hf] 25)) (Nat.le_refl _) (uCells b); have hlt := hT.res.lt; replace hT := hT.step hs0; generalize World.setRow (World.alloc w0 (.cells #[.string (str Url.zero.sch), .string (str Url.zero.host), .int .i64 Url.zero.port, .string (str Url.zero.path), .string (str Url.zero.query), .string (str Url.zero.frag), .bool Url.zero.hq, .bool Url.zero.hf] 25)) (World.heap w0).size (uCells b) = w1 at hV hT ⊢; generalize (World.heap w0).size = b7 at hV hlt ⊢; clear hs0))
  have f7 := hV.frozen 7
  have f5 := (hV.hf false).frozen 5
  have x7 := hV.cell 7
  have x5 := (hV.hf false).cell 5
  simp only [uCells] at x7 x5
  go_upto_region 14 with fail
  have hV2 : UAt ((w1.setCell ⟨b7, 7, none⟩ (.bool false)).setCell ⟨b7, 5, none⟩ (.string ⟨#[]⟩)) b7 (Url.bare b) := (hV.hf false).frag []
  have hT2 : TU w.heap.size w ((w1.setCell ⟨b7, 7, none⟩ (.bool false)).setCell ⟨b7, 5, none⟩ (.string ⟨#[]⟩)) b := (hT.cell hlt _).cell hlt _
  generalize (w1.setCell ⟨b7, 7, none⟩ (.bool false)).setCell ⟨b7, 5, none⟩ (.string ⟨#[]⟩) = w2 at hV2 hT2 ⊢
  clear hV hT f7 f5 x7 x5
  rename UAt w2 b7 (Url.bare b) => hV
  rename TU w.heap.size w w2 b => hT
  go_upto_region 18 with (first
    | ((with_reducible show wpList _ _ _ ({ dst := _, op := Op.load 25 (Operand.tmp 7), type := _, pos := _, after := _, guard := _ } :: _) _ _); refine wpList_load_Ug _ rfl (by rfl) (b7) (Url.bare b) rfl hV ?_)
    | (go_at_call 41; refine (tlc _).mono ?_; rintro e w4 ⟨rfl, hb4⟩; replace hV := hV.below hb4; replace hT := hT.step hb4; clear hb4)
    | ((with_reducible show wpList _ _ _ ({ dst := _, op := Op.store 25 (Operand.tmp 7) _, type := _, pos := _, after := _, guard := _ } :: _) _ _); refine wpList_store_U _ _ rfl rfl b7 (tl) (Url.bare b) rfl rfl hV ?_; have hV2 := setRow_U (v := tl) hV; have hT2 := hT.setRow hlt (tl); generalize World.setRow w4 b7 (uCells (tl)) = w5 at hV2 hT2 ⊢; clear hV hT; rename UAt w5 b7 (tl) => hV; rename TU w.heap.size w w5 b => hT))
  obtain ⟨S, hS1⟩ : ∃ S : World → Prop, ∀ W, S W ↔ TU w.heap.size w W b := ⟨_, fun _ => Iff.rfl⟩
  refine wp_region_held_drew (S := S) (by kernel_rfl) ((hS1 _).2 (hT.step ((Below.refl _ _).drew))) (fun hS => ?_)
  have hVd := hV.below ((Below.refl _ w5).drew)
  generalize World.drew w5 = wd at hS hVd ⊢
  clear hV hT
  refine takeH 0 90 (.pointer (some ⟨w.heap.size, 3, none⟩)) rfl rfl (by kernel_rfl) (by kernel_rfl) (by kernel_rfl) (fun _ _ _ h => h) (Or.inl ⟨by kernel_rfl, fun W _ => by go_simp⟩) hS ?_
  simp only [Act.put, List.setIfInBounds_toArray, List.set_cons_zero, List.set_cons_succ]
  refine takeH 1 91 (.string (str b.path)) rfl rfl (by kernel_rfl) (by kernel_rfl) (by kernel_rfl) (fun _ _ _ h => h) (Or.inl ⟨by kernel_rfl, fun W h => by have hcc : W.cell? ⟨w.heap.size, 3, none⟩ = some (.string (str b.path)) := ((hS1 W).1 h).at_.cell 3; go_simp⟩) hS ?_
  simp only [Act.put, List.setIfInBounds_toArray, List.set_cons_zero, List.set_cons_succ]
  refine takeH 2 92 (.pointer (some ⟨w.heap.size, 6, none⟩)) rfl rfl (by kernel_rfl) (by kernel_rfl) (by kernel_rfl) (fun _ _ _ h => h) (Or.inl ⟨by kernel_rfl, fun W _ => by go_simp⟩) hS ?_
  simp only [Act.put, List.setIfInBounds_toArray, List.set_cons_zero, List.set_cons_succ]
  refine takeH 3 93 (.bool b.hq) rfl rfl (by kernel_rfl) (by kernel_rfl) (by kernel_rfl) (fun _ _ _ h => h) (Or.inl ⟨by kernel_rfl, fun W h => by have hcc : W.cell? ⟨w.heap.size, 6, none⟩ = some (.bool b.hq) := ((hS1 W).1 h).at_.cell 6; go_simp⟩) hS ?_
  simp only [Act.put, List.setIfInBounds_toArray, List.set_cons_zero, List.set_cons_succ]
  refine takeH 4 94 (.pointer (some ⟨w.heap.size, 4, none⟩)) rfl rfl (by kernel_rfl) (by kernel_rfl) (by kernel_rfl) (fun _ _ _ h => h) (Or.inl ⟨by kernel_rfl, fun W _ => by go_simp⟩) hS ?_
  simp only [Act.put, List.setIfInBounds_toArray, List.set_cons_zero, List.set_cons_succ]
  refine takeH 5 95 (.string (str b.query)) rfl rfl (by kernel_rfl) (by kernel_rfl) (by kernel_rfl) (fun _ _ _ h => h) (Or.inl ⟨by kernel_rfl, fun W h => by have hcc : W.cell? ⟨w.heap.size, 4, none⟩ = some (.string (str b.query)) := ((hS1 W).1 h).at_.cell 4; go_simp⟩) hS ?_
  simp only [Act.put, List.setIfInBounds_toArray, List.set_cons_zero, List.set_cons_succ]
  refine takeH 6 96 (.pointer (some ⟨b7, 3, none⟩)) rfl rfl (by kernel_rfl) (by kernel_rfl) (by kernel_rfl) (fun _ _ _ h => h) (Or.inl ⟨by kernel_rfl, fun W _ => by go_simp⟩) hS ?_
  simp only [Act.put, List.setIfInBounds_toArray, List.set_cons_zero, List.set_cons_succ]
  refine wpAnyH_ready (rs := [7]) (by kernel_rfl) (by simp) ?_
  refine AllReadyH.cons rfl (fun K hK => ?_) AllReadyH.nil
  have fz := hVd.frozen 3
  have xz := hVd.cell 3
  simp only [uCells] at xz
  go_simp
  refine hK.out _ _ ((hS1 _).2 (((hS1 _).1 hS).cell hlt _)) (fun hS => ?_)
  clear hK K fz xz
  have hVe := hVd.path (b.path)
  generalize World.setCell wd ⟨b7, 3, none⟩ (.string (str b.path)) = we at hVe hS ⊢
  refine takeH 8 97 (.pointer (some ⟨b7, 6, none⟩)) rfl rfl (by kernel_rfl) (by kernel_rfl) (by kernel_rfl) (fun _ _ _ h => h) (Or.inl ⟨by kernel_rfl, fun W _ => by go_simp⟩) hS ?_
  simp only [Act.put, List.setIfInBounds_toArray, List.set_cons_zero, List.set_cons_succ]
  refine wpAnyH_ready (rs := [9]) (by kernel_rfl) (by simp) ?_
  refine AllReadyH.cons rfl (fun K hK => ?_) AllReadyH.nil
  have fz := hVe.frozen 6
  have xz := hVe.cell 6
  simp only [uCells] at xz
  go_simp
  refine hK.out _ _ ((hS1 _).2 (((hS1 _).1 hS).cell hlt _)) (fun hS => ?_)
  clear hK K fz xz
  have hVf := hVe.hq (b.hq)
  generalize World.setCell we ⟨b7, 6, none⟩ (.bool b.hq) = wf at hVf hS ⊢
  refine takeH 10 98 (.pointer (some ⟨b7, 4, none⟩)) rfl rfl (by kernel_rfl) (by kernel_rfl) (by kernel_rfl) (fun _ _ _ h => h) (Or.inl ⟨by kernel_rfl, fun W _ => by go_simp⟩) hS ?_
  simp only [Act.put, List.setIfInBounds_toArray, List.set_cons_zero, List.set_cons_succ]
  refine wpAnyH_ready (rs := [11]) (by kernel_rfl) (by simp) ?_
  refine AllReadyH.cons rfl (fun K hK => ?_) AllReadyH.nil
  have fz := hVf.frozen 4
  have xz := hVf.cell 4
  simp only [uCells] at xz
  go_simp
  refine hK.out _ _ ((hS1 _).2 (((hS1 _).1 hS).cell hlt _)) (fun hS => ?_)
  clear hK K fz xz
  have hVg := hVf.query (b.query)
  generalize World.setCell wf ⟨b7, 4, none⟩ (.string (str b.query)) = wg at hVg hS ⊢
  refine wpAnyH_done (by kernel_rfl) ?_ _
  have hV : UAt wg b7 v := by rw [← HV.out]; exact hVg
  have hT := (hS1 _).1 hS
  clear hVd hVe hVf hVg hS
  go_upto_region 24 with fail
  go_wp2_with (first
    | ((with_reducible show wpList _ _ _ ({ dst := _, op := Op.load 25 (Operand.tmp 7), type := _, pos := _, after := _, guard := _ } :: _) _ _); refine wpList_load_Ug _ rfl (by rfl) (b7) v rfl hV ?_)
    | (go_at_call 13; refine (stc _).mono ?_; rintro e w9 ⟨rfl, hb9⟩; replace hV := hV.below hb9; replace hT := hT.step hb9; clear hb9)
    | ((with_reducible show wpList _ _ _ ({ dst := _, op := Op.store 25 (Operand.tmp 4) _, type := _, pos := _, after := _, guard := _ } :: _) _ _); refine wpList_store_U _ _ rfl rfl (w.heap.size + 1) Url.zero Url.zero rfl rfl hT.res ?_))
  refine ret_U2 (u := Url.zero) rfl rfl rfl rfl (setRow_U hT.res) ⟨?_, below_setRow hT.bel (by omega) _⟩
  rfl
set_option maxHeartbeats 8000000 in
set_option maxRecDepth 100000 in
theorem RJoined_frag_fine (b : Url.U) (x : UInt8) (t : List UInt8) (w : World) (g : Url.Good b) (hc : (x :: t).length ≤ 2048) (hs : Url.hasSch (x :: t) = false) (h35 : x = 35) (hm : ¬ 2048 < (Url.str (Url.turned b (x :: t))).length) :
    Calls Tryz.prog 50 #[uVal b, .string (str (x :: t))] w fun e w' => e = .returned (.tuple #[uVal (Url.turned b (x :: t)), .int .i64 (0)]) ∧ Below w.heap.size w w' := by
  have hzu := (zero_of_info zeroURL).1
  have hT : TU w.heap.size w ((w.alloc (.cells (uCells b) 25)).alloc (.cells (uCells Url.zero) 25)) b :=
    ⟨UAt.below (heap_alloc_last _ _) ((Below.refl _ _).alloc (Nat.le_refl _) _), alloc_two _ _ _, ((Below.refl _ w).alloc (Nat.le_refl _) _).alloc (by simp) _⟩
  have schc : ∀ W : World, Calls Tryz.prog 36 #[.string (str (x :: t))] W fun e w' => e = .returned (.int .i64 0) ∧ w' = W := fun W => by
    have := RScheme_any (x :: t) W (by omega)
    rw [(Url.schemeN_zero (x :: t)).2 (fun h => by rw [← Url.hasSch_iff, hs] at h; cases h)] at this
    exact this
  have hs1 : (str (x :: t)).size = t.length + 1 := str_size _
  have hext1 : (str (x :: t)).extract 1 (t.length + 1) = str t := str_from (x :: t) 1
  have hat := str_first x t
  have he := empty_isnt (l := x :: t) (by simp)
  have h1le : (1 : Int) ≤ ((t.length + 1 : Nat) : Int) := by omega
  have h1le2 : (1 : Int) ≤ (t.length : Int) + 1 := by omega
  have hctl : t.length + 1 ≤ 2048 := hc
  have hstl := stay_len b (x :: t) g
  have hfit : Fits (Url.turned b (x :: t)) := tail_fits (Nat.le_trans (good_fits g).2.2 (by decide)) (by have := g.len; rw [Url.str_parts] at this; simp only [List.length_append, List.length_cons] at this; omega) (good_fits g).1.2.2.2.2.2.1 (good_fits g).1.2.2.2.2.2.2 (by rw [List.length_append]; omega)
  have stc : ∀ W : World, Calls Tryz.prog 13 #[uVal (Url.turned b (x :: t))] W fun e w' => e = .returned (.string (str (Url.str (Url.turned b (x :: t))))) ∧ Below W.heap.size W w' := fun W => RString_any _ W hfit
  have hss := str_size (Url.str (Url.turned b (x :: t)))
  clear hfit hstl
  have n35 : ((x.toNat : Int) == 35) = true := byte_eq (m := 35) h35
  have sl1 : ∀ W : World, Calls Tryz.prog 52 #[.string (str (x :: t))] W fun e w' => e = .returned (.bool false) ∧ w' = W := fun W => by
    have := RSlash5_any (x :: t) W
    rw [show Url.slashed (x :: t) = false from (by subst h35; rfl)] at this
    exact this
  have tlc : ∀ W : World, Calls Tryz.prog 41 #[uVal (Url.bare b), .string (str (x :: t))] W fun e w' => e = .returned (uVal (Url.tail b (x :: t))) ∧ Below W.heap.size W w' := fun W => RTail_any (Url.bare b) (x :: t) W (by omega)
  have HV : Hid ({ Url.tail b (x :: t) with path := b.path, hq := b.hq, query := b.query } = Url.turned b (x :: t)) := by
    show _ = _
    subst h35
    exact (Url.turned_frag g t).symm
  clear h35 hs
  generalize Url.tail b (x :: t) = tl at *
  generalize Url.turned b (x :: t) = v at *
  have hm2 : ¬ (2048 : Int) < ((Url.str v).length : Int) := by omega
  clear hm
  generalize Url.str v = ss at *
  unfold uVal at hzu
  unfold uVal
  unfold uCells at hzu hT ⊢
  go_enter Tryz.func50, Tryz.ntmps50
  go_upto_region 1 with fail
  generalize (w.alloc (.cells #[.string (str b.sch), .string (str b.host), .int .i64 b.port, .string (str b.path), .string (str b.query), .string (str b.frag), .bool b.hq, .bool b.hf] 25)).alloc (.cells #[.string (str Url.zero.sch), .string (str Url.zero.host), .int .i64 Url.zero.port, .string (str Url.zero.path), .string (str Url.zero.query), .string (str Url.zero.frag), .bool Url.zero.hq, .bool Url.zero.hf] 25) = w0 at hT ⊢
  go_upto_region 9 with (first
    | (go_at_call 36; refine (schc _).mono ?_; rintro e w2 ⟨rfl, hw2⟩; rw [hw2]; clear hw2)
    | (go_at_call_of 52 (str (x :: t)); refine (sl1 _).mono ?_; rintro e w3 ⟨rfl, hw3⟩; rw [hw3]; clear hw3)
    | ((with_reducible show wpList _ _ _ ({ dst := _, op := Op.load 25 (Operand.tmp 2), type := _, pos := _, after := _, guard := _ } :: _) _ _); refine wpList_load_Ug _ rfl (by rfl) (w.heap.size) b rfl hT.at_ ?_)
    | ((with_reducible show wpList _ _ _ ({ dst := _, op := Op.store 25 (Operand.tmp 7) _, type := _, pos := _, after := _, guard := _ } :: _) _ _); refine wpList_store_U _ _ rfl rfl _ b Url.zero rfl rfl (heap_alloc_last _ _) ?_; have hV := setRow_U (v := b) (u := Url.zero) (heap_alloc_last w0 (.cells #[.string (str Url.zero.sch), .string (str Url.zero.host), .int .i64 Url.zero.port, .string (str Url.zero.path), .string (str Url.zero.query), .string (str Url.zero.frag), .bool Url.zero.hq, .bool Url.zero.hf] 25)); have hs0 := below_setRow ((Below.refl _ w0).alloc (Nat.le_refl _) (.cells #[.string (str Url.zero.sch), .string (str Url.zero.host), .int .i64 Url.zero.port, .string (str Url.zero.path), .string (str Url.zero.query), .string (str Url.zero.frag), .bool Url.zero.hq, .bool Url.zero.hf] 25)) (Nat.le_refl _) (uCells b); have hlt := hT.res.lt; replace hT := hT.step hs0; generalize World.setRow (World.alloc w0 (.cells #[.string (str Url.zero.sch), .string (str Url.zero.host), .int .i64 Url.zero.port, .string (str Url.zero.path), .string (str Url.zero.query), .string (str Url.zero.frag), .bool Url.zero.hq, .bool Url.zero.hf] 25)) (World.heap w0).size (uCells b) = w1 at hV hT ⊢; generalize (World.heap w0).size = b7 at hV hlt ⊢; clear hs0))
  have f7 := hV.frozen 7
  have f5 := (hV.hf false).frozen 5
  have x7 := hV.cell 7
  have x5 := (hV.hf false).cell 5
  simp only [uCells] at x7 x5
  go_upto_region 14 with fail
  have hV2 : UAt ((w1.setCell ⟨b7, 7, none⟩ (.bool false)).setCell ⟨b7, 5, none⟩ (.string ⟨#[]⟩)) b7 (Url.bare b) := (hV.hf false).frag []
  have hT2 : TU w.heap.size w ((w1.setCell ⟨b7, 7, none⟩ (.bool false)).setCell ⟨b7, 5, none⟩ (.string ⟨#[]⟩)) b := (hT.cell hlt _).cell hlt _
  generalize (w1.setCell ⟨b7, 7, none⟩ (.bool false)).setCell ⟨b7, 5, none⟩ (.string ⟨#[]⟩) = w2 at hV2 hT2 ⊢
  clear hV hT f7 f5 x7 x5
  rename UAt w2 b7 (Url.bare b) => hV
  rename TU w.heap.size w w2 b => hT
  go_upto_region 18 with (first
    | ((with_reducible show wpList _ _ _ ({ dst := _, op := Op.load 25 (Operand.tmp 7), type := _, pos := _, after := _, guard := _ } :: _) _ _); refine wpList_load_Ug _ rfl (by rfl) (b7) (Url.bare b) rfl hV ?_)
    | (go_at_call 41; refine (tlc _).mono ?_; rintro e w4 ⟨rfl, hb4⟩; replace hV := hV.below hb4; replace hT := hT.step hb4; clear hb4)
    | ((with_reducible show wpList _ _ _ ({ dst := _, op := Op.store 25 (Operand.tmp 7) _, type := _, pos := _, after := _, guard := _ } :: _) _ _); refine wpList_store_U _ _ rfl rfl b7 (tl) (Url.bare b) rfl rfl hV ?_; have hV2 := setRow_U (v := tl) hV; have hT2 := hT.setRow hlt (tl); generalize World.setRow w4 b7 (uCells (tl)) = w5 at hV2 hT2 ⊢; clear hV hT; rename UAt w5 b7 (tl) => hV; rename TU w.heap.size w w5 b => hT))
  obtain ⟨S, hS1⟩ : ∃ S : World → Prop, ∀ W, S W ↔ TU w.heap.size w W b := ⟨_, fun _ => Iff.rfl⟩
  refine wp_region_held_drew (S := S) (by kernel_rfl) ((hS1 _).2 (hT.step ((Below.refl _ _).drew))) (fun hS => ?_)
  have hVd := hV.below ((Below.refl _ w5).drew)
  generalize World.drew w5 = wd at hS hVd ⊢
  clear hV hT
  refine takeH 0 90 (.pointer (some ⟨w.heap.size, 3, none⟩)) rfl rfl (by kernel_rfl) (by kernel_rfl) (by kernel_rfl) (fun _ _ _ h => h) (Or.inl ⟨by kernel_rfl, fun W _ => by go_simp⟩) hS ?_
  simp only [Act.put, List.setIfInBounds_toArray, List.set_cons_zero, List.set_cons_succ]
  refine takeH 1 91 (.string (str b.path)) rfl rfl (by kernel_rfl) (by kernel_rfl) (by kernel_rfl) (fun _ _ _ h => h) (Or.inl ⟨by kernel_rfl, fun W h => by have hcc : W.cell? ⟨w.heap.size, 3, none⟩ = some (.string (str b.path)) := ((hS1 W).1 h).at_.cell 3; go_simp⟩) hS ?_
  simp only [Act.put, List.setIfInBounds_toArray, List.set_cons_zero, List.set_cons_succ]
  refine takeH 2 92 (.pointer (some ⟨w.heap.size, 6, none⟩)) rfl rfl (by kernel_rfl) (by kernel_rfl) (by kernel_rfl) (fun _ _ _ h => h) (Or.inl ⟨by kernel_rfl, fun W _ => by go_simp⟩) hS ?_
  simp only [Act.put, List.setIfInBounds_toArray, List.set_cons_zero, List.set_cons_succ]
  refine takeH 3 93 (.bool b.hq) rfl rfl (by kernel_rfl) (by kernel_rfl) (by kernel_rfl) (fun _ _ _ h => h) (Or.inl ⟨by kernel_rfl, fun W h => by have hcc : W.cell? ⟨w.heap.size, 6, none⟩ = some (.bool b.hq) := ((hS1 W).1 h).at_.cell 6; go_simp⟩) hS ?_
  simp only [Act.put, List.setIfInBounds_toArray, List.set_cons_zero, List.set_cons_succ]
  refine takeH 4 94 (.pointer (some ⟨w.heap.size, 4, none⟩)) rfl rfl (by kernel_rfl) (by kernel_rfl) (by kernel_rfl) (fun _ _ _ h => h) (Or.inl ⟨by kernel_rfl, fun W _ => by go_simp⟩) hS ?_
  simp only [Act.put, List.setIfInBounds_toArray, List.set_cons_zero, List.set_cons_succ]
  refine takeH 5 95 (.string (str b.query)) rfl rfl (by kernel_rfl) (by kernel_rfl) (by kernel_rfl) (fun _ _ _ h => h) (Or.inl ⟨by kernel_rfl, fun W h => by have hcc : W.cell? ⟨w.heap.size, 4, none⟩ = some (.string (str b.query)) := ((hS1 W).1 h).at_.cell 4; go_simp⟩) hS ?_
  simp only [Act.put, List.setIfInBounds_toArray, List.set_cons_zero, List.set_cons_succ]
  refine takeH 6 96 (.pointer (some ⟨b7, 3, none⟩)) rfl rfl (by kernel_rfl) (by kernel_rfl) (by kernel_rfl) (fun _ _ _ h => h) (Or.inl ⟨by kernel_rfl, fun W _ => by go_simp⟩) hS ?_
  simp only [Act.put, List.setIfInBounds_toArray, List.set_cons_zero, List.set_cons_succ]
  refine wpAnyH_ready (rs := [7]) (by kernel_rfl) (by simp) ?_
  refine AllReadyH.cons rfl (fun K hK => ?_) AllReadyH.nil
  have fz := hVd.frozen 3
  have xz := hVd.cell 3
  simp only [uCells] at xz
  go_simp
  refine hK.out _ _ ((hS1 _).2 (((hS1 _).1 hS).cell hlt _)) (fun hS => ?_)
  clear hK K fz xz
  have hVe := hVd.path (b.path)
  generalize World.setCell wd ⟨b7, 3, none⟩ (.string (str b.path)) = we at hVe hS ⊢
  refine takeH 8 97 (.pointer (some ⟨b7, 6, none⟩)) rfl rfl (by kernel_rfl) (by kernel_rfl) (by kernel_rfl) (fun _ _ _ h => h) (Or.inl ⟨by kernel_rfl, fun W _ => by go_simp⟩) hS ?_
  simp only [Act.put, List.setIfInBounds_toArray, List.set_cons_zero, List.set_cons_succ]
  refine wpAnyH_ready (rs := [9]) (by kernel_rfl) (by simp) ?_
  refine AllReadyH.cons rfl (fun K hK => ?_) AllReadyH.nil
  have fz := hVe.frozen 6
  have xz := hVe.cell 6
  simp only [uCells] at xz
  go_simp
  refine hK.out _ _ ((hS1 _).2 (((hS1 _).1 hS).cell hlt _)) (fun hS => ?_)
  clear hK K fz xz
  have hVf := hVe.hq (b.hq)
  generalize World.setCell we ⟨b7, 6, none⟩ (.bool b.hq) = wf at hVf hS ⊢
  refine takeH 10 98 (.pointer (some ⟨b7, 4, none⟩)) rfl rfl (by kernel_rfl) (by kernel_rfl) (by kernel_rfl) (fun _ _ _ h => h) (Or.inl ⟨by kernel_rfl, fun W _ => by go_simp⟩) hS ?_
  simp only [Act.put, List.setIfInBounds_toArray, List.set_cons_zero, List.set_cons_succ]
  refine wpAnyH_ready (rs := [11]) (by kernel_rfl) (by simp) ?_
  refine AllReadyH.cons rfl (fun K hK => ?_) AllReadyH.nil
  have fz := hVf.frozen 4
  have xz := hVf.cell 4
  simp only [uCells] at xz
  go_simp
  refine hK.out _ _ ((hS1 _).2 (((hS1 _).1 hS).cell hlt _)) (fun hS => ?_)
  clear hK K fz xz
  have hVg := hVf.query (b.query)
  generalize World.setCell wf ⟨b7, 4, none⟩ (.string (str b.query)) = wg at hVg hS ⊢
  refine wpAnyH_done (by kernel_rfl) ?_ _
  have hV : UAt wg b7 v := by rw [← HV.out]; exact hVg
  have hT := (hS1 _).1 hS
  clear hVd hVe hVf hVg hS
  go_upto_region 24 with fail
  go_wp2_with (first
    | ((with_reducible show wpList _ _ _ ({ dst := _, op := Op.load 25 (Operand.tmp 7), type := _, pos := _, after := _, guard := _ } :: _) _ _); refine wpList_load_Ug _ rfl (by rfl) (b7) v rfl hV ?_)
    | (go_at_call 13; refine (stc _).mono ?_; rintro e w9 ⟨rfl, hb9⟩; replace hV := hV.below hb9; replace hT := hT.step hb9; clear hb9)
    | ((with_reducible show wpList _ _ _ ({ dst := _, op := Op.store 25 (Operand.tmp 4) _, type := _, pos := _, after := _, guard := _ } :: _) _ _); refine wpList_store_U _ _ rfl rfl (w.heap.size + 1) v Url.zero rfl rfl hT.res ?_))
  refine ret_U2 (u := v) rfl rfl rfl rfl (setRow_U hT.res) ⟨?_, below_setRow hT.bel (by omega) _⟩
  rfl
set_option maxHeartbeats 8000000 in
set_option maxRecDepth 100000 in
theorem RJoined_query_much (b : Url.U) (x : UInt8) (t : List UInt8) (w : World) (g : Url.Good b) (hc : (x :: t).length ≤ 2048) (hs : Url.hasSch (x :: t) = false) (h63 : x = 63) (hm : 2048 < (Url.str (Url.turned b (x :: t))).length) :
    Calls Tryz.prog 50 #[uVal b, .string (str (x :: t))] w fun e w' => e = .returned (.tuple #[uVal (Url.zero), .int .i64 (5)]) ∧ Below w.heap.size w w' := by
  have hzu := (zero_of_info zeroURL).1
  have hT : TU w.heap.size w ((w.alloc (.cells (uCells b) 25)).alloc (.cells (uCells Url.zero) 25)) b :=
    ⟨UAt.below (heap_alloc_last _ _) ((Below.refl _ _).alloc (Nat.le_refl _) _), alloc_two _ _ _, ((Below.refl _ w).alloc (Nat.le_refl _) _).alloc (by simp) _⟩
  have schc : ∀ W : World, Calls Tryz.prog 36 #[.string (str (x :: t))] W fun e w' => e = .returned (.int .i64 0) ∧ w' = W := fun W => by
    have := RScheme_any (x :: t) W (by omega)
    rw [(Url.schemeN_zero (x :: t)).2 (fun h => by rw [← Url.hasSch_iff, hs] at h; cases h)] at this
    exact this
  have hs1 : (str (x :: t)).size = t.length + 1 := str_size _
  have hext1 : (str (x :: t)).extract 1 (t.length + 1) = str t := str_from (x :: t) 1
  have hat := str_first x t
  have he := empty_isnt (l := x :: t) (by simp)
  have h1le : (1 : Int) ≤ ((t.length + 1 : Nat) : Int) := by omega
  have h1le2 : (1 : Int) ≤ (t.length : Int) + 1 := by omega
  have hctl : t.length + 1 ≤ 2048 := hc
  have hstl := stay_len b (x :: t) g
  have hfit : Fits (Url.turned b (x :: t)) := tail_fits (Nat.le_trans (good_fits g).2.2 (by decide)) (by have := g.len; rw [Url.str_parts] at this; simp only [List.length_append, List.length_cons] at this; omega) (good_fits g).1.2.2.2.2.2.1 (good_fits g).1.2.2.2.2.2.2 (by rw [List.length_append]; omega)
  have stc : ∀ W : World, Calls Tryz.prog 13 #[uVal (Url.turned b (x :: t))] W fun e w' => e = .returned (.string (str (Url.str (Url.turned b (x :: t))))) ∧ Below W.heap.size W w' := fun W => RString_any _ W hfit
  have hss := str_size (Url.str (Url.turned b (x :: t)))
  clear hfit hstl
  have n35 : ((x.toNat : Int) == 35) = false := byte_neq (m := 35) (by subst h63; decide)
  have n63 : ((x.toNat : Int) == 63) = true := byte_eq (m := 63) h63
  have sl1 : ∀ W : World, Calls Tryz.prog 52 #[.string (str (x :: t))] W fun e w' => e = .returned (.bool false) ∧ w' = W := fun W => by
    have := RSlash5_any (x :: t) W
    rw [show Url.slashed (x :: t) = false from (by subst h63; rfl)] at this
    exact this
  have tlc : ∀ W : World, Calls Tryz.prog 41 #[uVal (Url.bare b), .string (str (x :: t))] W fun e w' => e = .returned (uVal (Url.tail b (x :: t))) ∧ Below W.heap.size W w' := fun W => RTail_any (Url.bare b) (x :: t) W (by omega)
  have HV : Hid ({ Url.tail b (x :: t) with path := b.path } = Url.turned b (x :: t)) := by
    show _ = _
    subst h63
    exact (Url.turned_query g t).symm
  clear h63 hs
  generalize Url.tail b (x :: t) = tl at *
  generalize Url.turned b (x :: t) = v at *
  have hm2 : (2048 : Int) < ((Url.str v).length : Int) := by omega
  clear hm
  generalize Url.str v = ss at *
  unfold uVal at hzu
  unfold uVal
  unfold uCells at hzu hT ⊢
  go_enter Tryz.func50, Tryz.ntmps50
  go_upto_region 1 with fail
  generalize (w.alloc (.cells #[.string (str b.sch), .string (str b.host), .int .i64 b.port, .string (str b.path), .string (str b.query), .string (str b.frag), .bool b.hq, .bool b.hf] 25)).alloc (.cells #[.string (str Url.zero.sch), .string (str Url.zero.host), .int .i64 Url.zero.port, .string (str Url.zero.path), .string (str Url.zero.query), .string (str Url.zero.frag), .bool Url.zero.hq, .bool Url.zero.hf] 25) = w0 at hT ⊢
  go_upto_region 9 with (first
    | (go_at_call 36; refine (schc _).mono ?_; rintro e w2 ⟨rfl, hw2⟩; rw [hw2]; clear hw2)
    | (go_at_call_of 52 (str (x :: t)); refine (sl1 _).mono ?_; rintro e w3 ⟨rfl, hw3⟩; rw [hw3]; clear hw3)
    | ((with_reducible show wpList _ _ _ ({ dst := _, op := Op.load 25 (Operand.tmp 2), type := _, pos := _, after := _, guard := _ } :: _) _ _); refine wpList_load_Ug _ rfl (by rfl) (w.heap.size) b rfl hT.at_ ?_)
    | ((with_reducible show wpList _ _ _ ({ dst := _, op := Op.store 25 (Operand.tmp 7) _, type := _, pos := _, after := _, guard := _ } :: _) _ _); refine wpList_store_U _ _ rfl rfl _ b Url.zero rfl rfl (heap_alloc_last _ _) ?_; have hV := setRow_U (v := b) (u := Url.zero) (heap_alloc_last w0 (.cells #[.string (str Url.zero.sch), .string (str Url.zero.host), .int .i64 Url.zero.port, .string (str Url.zero.path), .string (str Url.zero.query), .string (str Url.zero.frag), .bool Url.zero.hq, .bool Url.zero.hf] 25)); have hs0 := below_setRow ((Below.refl _ w0).alloc (Nat.le_refl _) (.cells #[.string (str Url.zero.sch), .string (str Url.zero.host), .int .i64 Url.zero.port, .string (str Url.zero.path), .string (str Url.zero.query), .string (str Url.zero.frag), .bool Url.zero.hq, .bool Url.zero.hf] 25)) (Nat.le_refl _) (uCells b); have hlt := hT.res.lt; replace hT := hT.step hs0; generalize World.setRow (World.alloc w0 (.cells #[.string (str Url.zero.sch), .string (str Url.zero.host), .int .i64 Url.zero.port, .string (str Url.zero.path), .string (str Url.zero.query), .string (str Url.zero.frag), .bool Url.zero.hq, .bool Url.zero.hf] 25)) (World.heap w0).size (uCells b) = w1 at hV hT ⊢; generalize (World.heap w0).size = b7 at hV hlt ⊢; clear hs0))
  have f7 := hV.frozen 7
  have f5 := (hV.hf false).frozen 5
  have x7 := hV.cell 7
  have x5 := (hV.hf false).cell 5
  simp only [uCells] at x7 x5
  go_upto_region 14 with fail
  have hV2 : UAt ((w1.setCell ⟨b7, 7, none⟩ (.bool false)).setCell ⟨b7, 5, none⟩ (.string ⟨#[]⟩)) b7 (Url.bare b) := (hV.hf false).frag []
  have hT2 : TU w.heap.size w ((w1.setCell ⟨b7, 7, none⟩ (.bool false)).setCell ⟨b7, 5, none⟩ (.string ⟨#[]⟩)) b := (hT.cell hlt _).cell hlt _
  generalize (w1.setCell ⟨b7, 7, none⟩ (.bool false)).setCell ⟨b7, 5, none⟩ (.string ⟨#[]⟩) = w2 at hV2 hT2 ⊢
  clear hV hT f7 f5 x7 x5
  rename UAt w2 b7 (Url.bare b) => hV
  rename TU w.heap.size w w2 b => hT
  go_upto_region 21 with (first
    | ((with_reducible show wpList _ _ _ ({ dst := _, op := Op.load 25 (Operand.tmp 7), type := _, pos := _, after := _, guard := _ } :: _) _ _); refine wpList_load_Ug _ rfl (by rfl) (b7) (Url.bare b) rfl hV ?_)
    | (go_at_call 41; refine (tlc _).mono ?_; rintro e w4 ⟨rfl, hb4⟩; replace hV := hV.below hb4; replace hT := hT.step hb4; clear hb4)
    | ((with_reducible show wpList _ _ _ ({ dst := _, op := Op.store 25 (Operand.tmp 7) _, type := _, pos := _, after := _, guard := _ } :: _) _ _); refine wpList_store_U _ _ rfl rfl b7 (tl) (Url.bare b) rfl rfl hV ?_; have hV2 := setRow_U (v := tl) hV; have hT2 := hT.setRow hlt (tl); generalize World.setRow w4 b7 (uCells (tl)) = w5 at hV2 hT2 ⊢; clear hV hT; rename UAt w5 b7 (tl) => hV; rename TU w.heap.size w w5 b => hT))
  have f3 := hV.frozen 3
  have x3 := hV.cell 3
  have a3 := hT.at_.cell 3
  simp only [uCells] at x3 a3
  go_upto_region 24 with fail
  have hV2 : UAt (w5.setCell ⟨b7, 3, none⟩ (.string (str b.path))) b7 v := by rw [← HV.out]; exact hV.path b.path
  have hT2 : TU w.heap.size w (w5.setCell ⟨b7, 3, none⟩ (.string (str b.path))) b := hT.cell hlt _
  generalize w5.setCell ⟨b7, 3, none⟩ (.string (str b.path)) = w6 at hV2 hT2 ⊢
  clear hV hT f3 x3 a3
  rename UAt w6 b7 v => hV
  rename TU w.heap.size w w6 b => hT
  go_wp2_with (first
    | ((with_reducible show wpList _ _ _ ({ dst := _, op := Op.load 25 (Operand.tmp 7), type := _, pos := _, after := _, guard := _ } :: _) _ _); refine wpList_load_Ug _ rfl (by rfl) (b7) v rfl hV ?_)
    | (go_at_call 13; refine (stc _).mono ?_; rintro e w9 ⟨rfl, hb9⟩; replace hV := hV.below hb9; replace hT := hT.step hb9; clear hb9)
    | ((with_reducible show wpList _ _ _ ({ dst := _, op := Op.store 25 (Operand.tmp 4) _, type := _, pos := _, after := _, guard := _ } :: _) _ _); refine wpList_store_U _ _ rfl rfl (w.heap.size + 1) Url.zero Url.zero rfl rfl hT.res ?_))
  refine ret_U2 (u := Url.zero) rfl rfl rfl rfl (setRow_U hT.res) ⟨?_, below_setRow hT.bel (by omega) _⟩
  rfl
set_option maxHeartbeats 8000000 in
set_option maxRecDepth 100000 in
theorem RJoined_query_fine (b : Url.U) (x : UInt8) (t : List UInt8) (w : World) (g : Url.Good b) (hc : (x :: t).length ≤ 2048) (hs : Url.hasSch (x :: t) = false) (h63 : x = 63) (hm : ¬ 2048 < (Url.str (Url.turned b (x :: t))).length) :
    Calls Tryz.prog 50 #[uVal b, .string (str (x :: t))] w fun e w' => e = .returned (.tuple #[uVal (Url.turned b (x :: t)), .int .i64 (0)]) ∧ Below w.heap.size w w' := by
  have hzu := (zero_of_info zeroURL).1
  have hT : TU w.heap.size w ((w.alloc (.cells (uCells b) 25)).alloc (.cells (uCells Url.zero) 25)) b :=
    ⟨UAt.below (heap_alloc_last _ _) ((Below.refl _ _).alloc (Nat.le_refl _) _), alloc_two _ _ _, ((Below.refl _ w).alloc (Nat.le_refl _) _).alloc (by simp) _⟩
  have schc : ∀ W : World, Calls Tryz.prog 36 #[.string (str (x :: t))] W fun e w' => e = .returned (.int .i64 0) ∧ w' = W := fun W => by
    have := RScheme_any (x :: t) W (by omega)
    rw [(Url.schemeN_zero (x :: t)).2 (fun h => by rw [← Url.hasSch_iff, hs] at h; cases h)] at this
    exact this
  have hs1 : (str (x :: t)).size = t.length + 1 := str_size _
  have hext1 : (str (x :: t)).extract 1 (t.length + 1) = str t := str_from (x :: t) 1
  have hat := str_first x t
  have he := empty_isnt (l := x :: t) (by simp)
  have h1le : (1 : Int) ≤ ((t.length + 1 : Nat) : Int) := by omega
  have h1le2 : (1 : Int) ≤ (t.length : Int) + 1 := by omega
  have hctl : t.length + 1 ≤ 2048 := hc
  have hstl := stay_len b (x :: t) g
  have hfit : Fits (Url.turned b (x :: t)) := tail_fits (Nat.le_trans (good_fits g).2.2 (by decide)) (by have := g.len; rw [Url.str_parts] at this; simp only [List.length_append, List.length_cons] at this; omega) (good_fits g).1.2.2.2.2.2.1 (good_fits g).1.2.2.2.2.2.2 (by rw [List.length_append]; omega)
  have stc : ∀ W : World, Calls Tryz.prog 13 #[uVal (Url.turned b (x :: t))] W fun e w' => e = .returned (.string (str (Url.str (Url.turned b (x :: t))))) ∧ Below W.heap.size W w' := fun W => RString_any _ W hfit
  have hss := str_size (Url.str (Url.turned b (x :: t)))
  clear hfit hstl
  have n35 : ((x.toNat : Int) == 35) = false := byte_neq (m := 35) (by subst h63; decide)
  have n63 : ((x.toNat : Int) == 63) = true := byte_eq (m := 63) h63
  have sl1 : ∀ W : World, Calls Tryz.prog 52 #[.string (str (x :: t))] W fun e w' => e = .returned (.bool false) ∧ w' = W := fun W => by
    have := RSlash5_any (x :: t) W
    rw [show Url.slashed (x :: t) = false from (by subst h63; rfl)] at this
    exact this
  have tlc : ∀ W : World, Calls Tryz.prog 41 #[uVal (Url.bare b), .string (str (x :: t))] W fun e w' => e = .returned (uVal (Url.tail b (x :: t))) ∧ Below W.heap.size W w' := fun W => RTail_any (Url.bare b) (x :: t) W (by omega)
  have HV : Hid ({ Url.tail b (x :: t) with path := b.path } = Url.turned b (x :: t)) := by
    show _ = _
    subst h63
    exact (Url.turned_query g t).symm
  clear h63 hs
  generalize Url.tail b (x :: t) = tl at *
  generalize Url.turned b (x :: t) = v at *
  have hm2 : ¬ (2048 : Int) < ((Url.str v).length : Int) := by omega
  clear hm
  generalize Url.str v = ss at *
  unfold uVal at hzu
  unfold uVal
  unfold uCells at hzu hT ⊢
  go_enter Tryz.func50, Tryz.ntmps50
  go_upto_region 1 with fail
  generalize (w.alloc (.cells #[.string (str b.sch), .string (str b.host), .int .i64 b.port, .string (str b.path), .string (str b.query), .string (str b.frag), .bool b.hq, .bool b.hf] 25)).alloc (.cells #[.string (str Url.zero.sch), .string (str Url.zero.host), .int .i64 Url.zero.port, .string (str Url.zero.path), .string (str Url.zero.query), .string (str Url.zero.frag), .bool Url.zero.hq, .bool Url.zero.hf] 25) = w0 at hT ⊢
  go_upto_region 9 with (first
    | (go_at_call 36; refine (schc _).mono ?_; rintro e w2 ⟨rfl, hw2⟩; rw [hw2]; clear hw2)
    | (go_at_call_of 52 (str (x :: t)); refine (sl1 _).mono ?_; rintro e w3 ⟨rfl, hw3⟩; rw [hw3]; clear hw3)
    | ((with_reducible show wpList _ _ _ ({ dst := _, op := Op.load 25 (Operand.tmp 2), type := _, pos := _, after := _, guard := _ } :: _) _ _); refine wpList_load_Ug _ rfl (by rfl) (w.heap.size) b rfl hT.at_ ?_)
    | ((with_reducible show wpList _ _ _ ({ dst := _, op := Op.store 25 (Operand.tmp 7) _, type := _, pos := _, after := _, guard := _ } :: _) _ _); refine wpList_store_U _ _ rfl rfl _ b Url.zero rfl rfl (heap_alloc_last _ _) ?_; have hV := setRow_U (v := b) (u := Url.zero) (heap_alloc_last w0 (.cells #[.string (str Url.zero.sch), .string (str Url.zero.host), .int .i64 Url.zero.port, .string (str Url.zero.path), .string (str Url.zero.query), .string (str Url.zero.frag), .bool Url.zero.hq, .bool Url.zero.hf] 25)); have hs0 := below_setRow ((Below.refl _ w0).alloc (Nat.le_refl _) (.cells #[.string (str Url.zero.sch), .string (str Url.zero.host), .int .i64 Url.zero.port, .string (str Url.zero.path), .string (str Url.zero.query), .string (str Url.zero.frag), .bool Url.zero.hq, .bool Url.zero.hf] 25)) (Nat.le_refl _) (uCells b); have hlt := hT.res.lt; replace hT := hT.step hs0; generalize World.setRow (World.alloc w0 (.cells #[.string (str Url.zero.sch), .string (str Url.zero.host), .int .i64 Url.zero.port, .string (str Url.zero.path), .string (str Url.zero.query), .string (str Url.zero.frag), .bool Url.zero.hq, .bool Url.zero.hf] 25)) (World.heap w0).size (uCells b) = w1 at hV hT ⊢; generalize (World.heap w0).size = b7 at hV hlt ⊢; clear hs0))
  have f7 := hV.frozen 7
  have f5 := (hV.hf false).frozen 5
  have x7 := hV.cell 7
  have x5 := (hV.hf false).cell 5
  simp only [uCells] at x7 x5
  go_upto_region 14 with fail
  have hV2 : UAt ((w1.setCell ⟨b7, 7, none⟩ (.bool false)).setCell ⟨b7, 5, none⟩ (.string ⟨#[]⟩)) b7 (Url.bare b) := (hV.hf false).frag []
  have hT2 : TU w.heap.size w ((w1.setCell ⟨b7, 7, none⟩ (.bool false)).setCell ⟨b7, 5, none⟩ (.string ⟨#[]⟩)) b := (hT.cell hlt _).cell hlt _
  generalize (w1.setCell ⟨b7, 7, none⟩ (.bool false)).setCell ⟨b7, 5, none⟩ (.string ⟨#[]⟩) = w2 at hV2 hT2 ⊢
  clear hV hT f7 f5 x7 x5
  rename UAt w2 b7 (Url.bare b) => hV
  rename TU w.heap.size w w2 b => hT
  go_upto_region 21 with (first
    | ((with_reducible show wpList _ _ _ ({ dst := _, op := Op.load 25 (Operand.tmp 7), type := _, pos := _, after := _, guard := _ } :: _) _ _); refine wpList_load_Ug _ rfl (by rfl) (b7) (Url.bare b) rfl hV ?_)
    | (go_at_call 41; refine (tlc _).mono ?_; rintro e w4 ⟨rfl, hb4⟩; replace hV := hV.below hb4; replace hT := hT.step hb4; clear hb4)
    | ((with_reducible show wpList _ _ _ ({ dst := _, op := Op.store 25 (Operand.tmp 7) _, type := _, pos := _, after := _, guard := _ } :: _) _ _); refine wpList_store_U _ _ rfl rfl b7 (tl) (Url.bare b) rfl rfl hV ?_; have hV2 := setRow_U (v := tl) hV; have hT2 := hT.setRow hlt (tl); generalize World.setRow w4 b7 (uCells (tl)) = w5 at hV2 hT2 ⊢; clear hV hT; rename UAt w5 b7 (tl) => hV; rename TU w.heap.size w w5 b => hT))
  have f3 := hV.frozen 3
  have x3 := hV.cell 3
  have a3 := hT.at_.cell 3
  simp only [uCells] at x3 a3
  go_upto_region 24 with fail
  have hV2 : UAt (w5.setCell ⟨b7, 3, none⟩ (.string (str b.path))) b7 v := by rw [← HV.out]; exact hV.path b.path
  have hT2 : TU w.heap.size w (w5.setCell ⟨b7, 3, none⟩ (.string (str b.path))) b := hT.cell hlt _
  generalize w5.setCell ⟨b7, 3, none⟩ (.string (str b.path)) = w6 at hV2 hT2 ⊢
  clear hV hT f3 x3 a3
  rename UAt w6 b7 v => hV
  rename TU w.heap.size w w6 b => hT
  go_wp2_with (first
    | ((with_reducible show wpList _ _ _ ({ dst := _, op := Op.load 25 (Operand.tmp 7), type := _, pos := _, after := _, guard := _ } :: _) _ _); refine wpList_load_Ug _ rfl (by rfl) (b7) v rfl hV ?_)
    | (go_at_call 13; refine (stc _).mono ?_; rintro e w9 ⟨rfl, hb9⟩; replace hV := hV.below hb9; replace hT := hT.step hb9; clear hb9)
    | ((with_reducible show wpList _ _ _ ({ dst := _, op := Op.store 25 (Operand.tmp 4) _, type := _, pos := _, after := _, guard := _ } :: _) _ _); refine wpList_store_U _ _ rfl rfl (w.heap.size + 1) v Url.zero rfl rfl hT.res ?_))
  refine ret_U2 (u := v) rfl rfl rfl rfl (setRow_U hT.res) ⟨?_, below_setRow hT.bel (by omega) _⟩
  rfl
end Go.Proofs.YtnmkhbelmdokmaaGreatDoor
/- Contracts of the reference's joined of layer 5: links whose path hangs on the base's. -/
namespace Go.Proofs.YtnmkhbelmdokmaaGreatDoor
open Go.RowKit
theorem step_val {ops : Array Oper} {o : Oper} {a : Act} {w : World} {v : Value} {K : Act → World → Prop} {Q : Exit → Act → World → Prop} {E : Prop} (hg : o.guard = none) (e : (execOp a.eval o).run Tryz.prog w = .ok (.value v) w) (hK : K (a.put o.dst v) w) : if Region.wanted o (yielded ops a.tmps) = true then Oper.wp Tryz.prog o a w K Q else E := by
  have hw : Region.wanted o (yielded ops a.tmps) = true := by simp [Region.wanted, hg]
  rw [if_pos hw]
  unfold Oper.wp
  rw [e, Oper.upon_value]
  exact hK
theorem any_one {md : Region.Mode} {ops : Array Oper} {Q : Exit → Act → World → Prop} {fuel : Nat} {listed : Array Bool} {a : Act} {w : World} (i d : Nat) (v : Value) {o : Oper} (hr : Region.ready md ops listed = [i]) (hi : ops[i]? = some o) (hd : o.dst = some d) (hg : o.guard = none) (e : (execOp a.eval o).run Tryz.prog w = .ok (.value v) w)
    (hK : wpAny Tryz.prog md ops Q fuel (listed.setIfInBounds i true) (a.put (some d) v) w) : wpAny Tryz.prog md ops Q (fuel + 1) listed a w :=
  wpAny_ready hr (by simp) (AllReady.cons hi (fun _ h2 => step_val hg e (h2 _ _ (by rw [hd]; exact hK))) AllReady.nil)
theorem any_both {md : Region.Mode} {ops : Array Oper} {Q : Exit → Act → World → Prop} {fuel : Nat} {listed : Array Bool} {a : Act} {w : World} (i j d c : Nat) (v u : Value) {o p : Oper} (hr : Region.ready md ops listed = [i, j]) (hi : ops[i]? = some o) (hj : ops[j]? = some p) (hd : o.dst = some d) (hc : p.dst = some c) (hg : o.guard = none) (hh : p.guard = none) (e : (execOp a.eval o).run Tryz.prog w = .ok (.value v) w) (f : (execOp a.eval p).run Tryz.prog w = .ok (.value u) w)
    (hK : wpAny Tryz.prog md ops Q fuel (listed.setIfInBounds i true) (a.put (some d) v) w) (hL : wpAny Tryz.prog md ops Q fuel (listed.setIfInBounds j true) (a.put (some c) u) w) : wpAny Tryz.prog md ops Q (fuel + 1) listed a w :=
  wpAny_ready hr (by simp) (AllReady.cons hi (fun _ h2 => step_val hg e (h2 _ _ (by rw [hd]; exact hK))) (AllReady.cons hj (fun _ h2 => step_val hh f (h2 _ _ (by rw [hc]; exact hL))) AllReady.nil))
theorem exec_load_U {o : Oper} {a : Act} {w : World} (x : Operand) (ho : o.op = .load 25 x) (b : Nat) (u : Url.U) (hx : a.eval x = .pointer (some ⟨b, 0, none⟩)) (h : UAt w b u) : (execOp a.eval o).run Tryz.prog w = .ok (.value (uVal u)) w := by
  unfold execOp
  rw [ho]
  simp only [hx, Sem.run_bind, loadAt_U h, Result.andThen, Sem.run_pure]
set_option maxHeartbeats 8000000 in
set_option maxRecDepth 100000 in
theorem RJoined_dir_much (b : Url.U) (x : UInt8) (t : List UInt8) (w : World) (g : Url.Good b) (hc : (x :: t).length ≤ 2048) (hs : Url.hasSch (x :: t) = false) (h35 : ¬ x = 35) (h63 : ¬ x = 63) (h2 : Url.slash x = false) (hm : 2048 < (Url.str (Url.turned b (x :: t))).length) :
    Calls Tryz.prog 50 #[uVal b, .string (str (x :: t))] w fun e w' => e = .returned (.tuple #[uVal (Url.zero), .int .i64 (5)]) ∧ Below w.heap.size w w' := by
  have hzu := (zero_of_info zeroURL).1
  have hT : TU w.heap.size w ((w.alloc (.cells (uCells b) 25)).alloc (.cells (uCells Url.zero) 25)) b :=
    ⟨UAt.below (heap_alloc_last _ _) ((Below.refl _ _).alloc (Nat.le_refl _) _), alloc_two _ _ _, ((Below.refl _ w).alloc (Nat.le_refl _) _).alloc (by simp) _⟩
  have schc : ∀ W : World, Calls Tryz.prog 36 #[.string (str (x :: t))] W fun e w' => e = .returned (.int .i64 0) ∧ w' = W := fun W => by
    have := RScheme_any (x :: t) W (by omega)
    rw [(Url.schemeN_zero (x :: t)).2 (fun h => by rw [← Url.hasSch_iff, hs] at h; cases h)] at this
    exact this
  have hs1 : (str (x :: t)).size = t.length + 1 := str_size _
  have hext1 : (str (x :: t)).extract 1 (t.length + 1) = str t := str_from (x :: t) 1
  have hat := str_first x t
  have he := empty_isnt (l := x :: t) (by simp)
  have h1le : (1 : Int) ≤ ((t.length + 1 : Nat) : Int) := by omega
  have h1le2 : (1 : Int) ≤ (t.length : Int) + 1 := by omega
  have hctl : t.length + 1 ≤ 2048 := hc
  have hstl := stay_len b (x :: t) g
  have hfit : Fits (Url.turned b (x :: t)) := tail_fits (Nat.le_trans (good_fits g).2.2 (by decide)) (by have := g.len; rw [Url.str_parts] at this; simp only [List.length_append, List.length_cons] at this; omega) (good_fits g).1.2.2.2.2.2.1 (good_fits g).1.2.2.2.2.2.2 (by rw [List.length_append]; omega)
  have stc : ∀ W : World, Calls Tryz.prog 13 #[uVal (Url.turned b (x :: t))] W fun e w' => e = .returned (.string (str (Url.str (Url.turned b (x :: t))))) ∧ Below W.heap.size W w' := fun W => RString_any _ W hfit
  have hss := str_size (Url.str (Url.turned b (x :: t)))
  clear hfit hstl
  have n35 : ((x.toNat : Int) == 35) = false := byte_neq (m := 35) h35
  have n63 : ((x.toNat : Int) == 63) = false := byte_neq (m := 63) h63
  have sl1 : ∀ W : World, Calls Tryz.prog 52 #[.string (str (x :: t))] W fun e w' => e = .returned (.bool false) ∧ w' = W := fun W => by
    have := RSlash5_any (x :: t) W
    rw [show Url.slashed (x :: t) = false from h2] at this
    exact this
  obtain ⟨hd1, hd2⟩ := Url.dirOf_prefix b.path
  have hpl := (good_fits g).2.1
  have tlc : ∀ W : World, Calls Tryz.prog 41 #[uVal (Url.bare b), .string (str (Url.dirOf b.path ++ x :: t))] W fun e w' => e = .returned (uVal (Url.turned b (x :: t))) ∧ Below W.heap.size W w' := fun W => by
    rw [Url.turned_else b h35 h63 h2 t]
    exact RTail_any (Url.bare b) _ W (by rw [List.length_append]; omega)
  have hadd : str (Url.dirOf b.path) ++ str (x :: t) = str (Url.dirOf b.path ++ x :: t) := str_add _ _
  have hz1 : (str (Url.dirOf b.path)).size ≤ 2048 := by rw [str_size]; omega
  have hps := str_size b.path
  obtain ⟨dl, hdl⟩ : ∃ dl, (Url.dirOf b.path).length = dl := ⟨_, rfl⟩
  rw [hdl] at hd1 hd2
  have HD1 : Hid (List.take dl b.path = Url.dirOf b.path) := hd1
  have HD2 : Hid ((Url.dirOf b.path).length = dl) := hdl
  clear hd1 hdl
  clear h35 h63 h2 hs
  generalize Url.dirOf b.path ++ x :: t = kc at *
  generalize Url.turned b (x :: t) = v at *
  have hm2 : (2048 : Int) < ((Url.str v).length : Int) := by omega
  clear hm
  generalize Url.str v = ss at *
  unfold uVal at hzu
  unfold uVal
  unfold uCells at hzu hT ⊢
  go_enter Tryz.func50, Tryz.ntmps50
  go_upto_region 1 with fail
  generalize (w.alloc (.cells #[.string (str b.sch), .string (str b.host), .int .i64 b.port, .string (str b.path), .string (str b.query), .string (str b.frag), .bool b.hq, .bool b.hf] 25)).alloc (.cells #[.string (str Url.zero.sch), .string (str Url.zero.host), .int .i64 Url.zero.port, .string (str Url.zero.path), .string (str Url.zero.query), .string (str Url.zero.frag), .bool Url.zero.hq, .bool Url.zero.hf] 25) = w0 at hT ⊢
  go_upto_region 9 with (first
    | (go_at_call 36; refine (schc _).mono ?_; rintro e w2 ⟨rfl, hw2⟩; rw [hw2]; clear hw2)
    | (go_at_call_of 52 (str (x :: t)); refine (sl1 _).mono ?_; rintro e w3 ⟨rfl, hw3⟩; rw [hw3]; clear hw3)
    | ((with_reducible show wpList _ _ _ ({ dst := _, op := Op.load 25 (Operand.tmp 2), type := _, pos := _, after := _, guard := _ } :: _) _ _); refine wpList_load_Ug _ rfl (by rfl) (w.heap.size) b rfl hT.at_ ?_)
    | ((with_reducible show wpList _ _ _ ({ dst := _, op := Op.store 25 (Operand.tmp 7) _, type := _, pos := _, after := _, guard := _ } :: _) _ _); refine wpList_store_U _ _ rfl rfl _ b Url.zero rfl rfl (heap_alloc_last _ _) ?_; have hV := setRow_U (v := b) (u := Url.zero) (heap_alloc_last w0 (.cells #[.string (str Url.zero.sch), .string (str Url.zero.host), .int .i64 Url.zero.port, .string (str Url.zero.path), .string (str Url.zero.query), .string (str Url.zero.frag), .bool Url.zero.hq, .bool Url.zero.hf] 25)); have hs0 := below_setRow ((Below.refl _ w0).alloc (Nat.le_refl _) (.cells #[.string (str Url.zero.sch), .string (str Url.zero.host), .int .i64 Url.zero.port, .string (str Url.zero.path), .string (str Url.zero.query), .string (str Url.zero.frag), .bool Url.zero.hq, .bool Url.zero.hf] 25)) (Nat.le_refl _) (uCells b); have hlt := hT.res.lt; replace hT := hT.step hs0; generalize World.setRow (World.alloc w0 (.cells #[.string (str Url.zero.sch), .string (str Url.zero.host), .int .i64 Url.zero.port, .string (str Url.zero.path), .string (str Url.zero.query), .string (str Url.zero.frag), .bool Url.zero.hq, .bool Url.zero.hf] 25)) (World.heap w0).size (uCells b) = w1 at hV hT ⊢; generalize (World.heap w0).size = b7 at hV hlt ⊢; clear hs0))
  have f7 := hV.frozen 7
  have f5 := (hV.hf false).frozen 5
  have x7 := hV.cell 7
  have x5 := (hV.hf false).cell 5
  simp only [uCells] at x7 x5
  go_upto_region 14 with fail
  have hV2 : UAt ((w1.setCell ⟨b7, 7, none⟩ (.bool false)).setCell ⟨b7, 5, none⟩ (.string ⟨#[]⟩)) b7 (Url.bare b) := (hV.hf false).frag []
  have hT2 : TU w.heap.size w ((w1.setCell ⟨b7, 7, none⟩ (.bool false)).setCell ⟨b7, 5, none⟩ (.string ⟨#[]⟩)) b := (hT.cell hlt _).cell hlt _
  generalize (w1.setCell ⟨b7, 7, none⟩ (.bool false)).setCell ⟨b7, 5, none⟩ (.string ⟨#[]⟩) = w2 at hV2 hT2 ⊢
  clear hV hT f7 f5 x7 x5
  rename UAt w2 b7 (Url.bare b) => hV
  rename TU w.heap.size w w2 b => hT
  have a3 := hT.at_.cell 3
  simp only [uCells] at a3
  go_upto_block 1 with (go_at_call_of 52 (str (x :: t)); refine (sl1 _).mono ?_; rintro e w3 ⟨rfl, hw3⟩; rw [hw3]; clear hw3)
  go_cut [8] from 59 to 70 (fun s w' => s = Value.int .i64 (dl : Int) ∧ w' = w2)
  case first =>
    go_wp2_with fail
    go_loop [8] (fun i => ∃ k : Nat, k ≤ b.path.length ∧ i = .int .i64 (k : Int) ∧ Hid (Url.dirOf b.path = Url.dirOf (b.path.take k))) (fun i => (intOf i).toNat)
    case atStart => exact ⟨b.path.length, Nat.le_refl _, rfl, by rw [List.take_length]; rfl⟩
    case round =>
      obtain ⟨k, hk, rfl, HD⟩ := hrel
      cases k with
      | zero =>
        have hz : dl = 0 := by rw [← HD2.out, HD.out]; rfl
        go_wp2
        go_meet
        case rel => exact ⟨by rw [hz]; rfl, rfl⟩
      | succ k =>
        have hlt2 : k < b.path.length := hk
        have e1 : ((k + 1 : Nat) : Int) - 1 = (k : Int) := by omega
        have hp1 : (0 : Int) < ((k + 1 : Nat) : Int) := by omega
        have hp2 : (0 : Int) < (k : Int) + 1 := by omega
        have hg2 : (str b.path)[k]'(by rw [str_size]; exact hlt2) = b.path[k] := rfl
        by_cases hx : b.path[k] = 47
        · have hx2 : ((b.path[k].toNat : Int) != 47) = false := by rw [hx]; rfl
          have hl2 : dl = k + 1 := by rw [← HD2.out, HD.out, Url.dirOf_hit b.path k hlt2 hx, List.length_take]; omega
          clear hx
          go_wp2
          go_meet
          case rel => exact ⟨by rw [hl2]; rfl, rfl⟩
        · have hx2 : ((b.path[k].toNat : Int) != 47) = true := by rw [bne_iff_ne]; exact fun h => hx (UInt8.toNat_inj.1 (by show _ = 47; omega))
          have HD3 : Hid _ := HD.out.trans (Url.dirOf_miss b.path k hlt2 hx)
          clear hx
          go_wp2
          go_round
          case rel => exact ⟨k, by omega, by go_num, HD3⟩
          case measure => simp [intOf]
  case rest =>
    obtain ⟨rfl, rfl⟩ := hcut
    go_upto_region 13 with fail
    refine wp_region_any (by kernel_rfl) ?_
    change wpAny _ _ _ _ _ _ _ (World.drew _)
    have hTd := hT.step ((Below.refl _ _).drew)
    have hVd := hV.below ((Below.refl _ _).drew)
    refine wpAny_take (i := 1) (v := .pointer (some ⟨w.heap.size, 3, none⟩)) rfl (by kernel_rfl) (by kernel_rfl) (by kernel_rfl) (fun _ _ _ h => h) (Or.inl ⟨by rfl, fun W => by go_simp⟩) ?_
    refine wpAny_take (i := 3) rfl (by kernel_rfl) (by kernel_rfl) (by kernel_rfl) (fun _ _ _ h => h) (y_move (v := .int .i64 (dl : Int)) _ rfl rfl rfl) ?_
    refine wpAny_take (i := 5) rfl (by kernel_rfl) (by kernel_rfl) (by kernel_rfl) (fun _ _ _ h => h) (y_move (v := .string (str (x :: t))) _ rfl rfl rfl) ?_
    refine any_both 0 2 71 73 (uVal (Url.bare b)) (.string (str b.path)) (by kernel_rfl) rfl rfl rfl rfl rfl rfl (exec_load_U (Operand.tmp 7) rfl b7 (Url.bare b) (by go_simp) hVd) (by have hcc := hTd.at_.cell 3; simp only [uCells] at hcc; go_simp) ?_ ?_
    · refine any_one 2 73 (.string (str b.path)) (by kernel_rfl) rfl rfl rfl (by have hcc := hTd.at_.cell 3; simp only [uCells] at hcc; go_simp) ?_
      refine wpAny_take (i := 4) rfl (by kernel_rfl) (by kernel_rfl) (by kernel_rfl) (fun _ _ _ h => h) (y_slice_to (l := b.path) (r := Url.dirOf b.path) (k := (dl : Int)) (Operand.tmp 73) (Operand.tmp 74) rfl rfl (by kernel_rfl) (by kernel_rfl) (by omega) (by omega) HD1.out) ?_
      refine wpAny_take (i := 6) (v := .string (str kc)) rfl (by kernel_rfl) (by kernel_rfl) (by kernel_rfl) (fun _ _ _ h => h) (Or.inl ⟨by kernel_rfl, fun W => by go_simp; omega⟩) ?_
      refine wpAny_ready (rs := [7]) (by kernel_rfl) (by simp) ?_
      refine AllReady.cons rfl (fun K hK => ?_) AllReady.nil
      go_simp
      refine (tlc _).mono ?_
      rintro e w7 ⟨rfl, hb7⟩
      refine hK _ _ ?_
      clear hK K
      have hV7 := hVd.below hb7
      have hT7 := hTd.step hb7
      refine any_store_U 8 (by kernel_rfl) rfl (Operand.tmp 7) (Operand.tmp 78) rfl rfl b7 v (Url.bare b) (by go_simp) (by go_simp) hV7 ?_
      refine wpAny_done (by kernel_rfl) ?_ _
      have hV2 := setRow_U (v := v) hV7
      have hT2 := hT7.setRow hlt v
      generalize World.setRow w7 b7 (uCells v) = w8 at hV2 hT2 ⊢
      clear hV hT
      rename UAt w8 b7 v => hV
      rename TU w.heap.size w w8 b => hT
      go_wp2_with (first
        | ((with_reducible show wpList _ _ _ ({ dst := _, op := Op.load 25 (Operand.tmp 7), type := _, pos := _, after := _, guard := _ } :: _) _ _); refine wpList_load_Ug _ rfl (by rfl) (b7) v rfl hV ?_)
        | (go_at_call 13; refine (stc _).mono ?_; rintro e w9 ⟨rfl, hb9⟩; replace hV := hV.below hb9; replace hT := hT.step hb9; clear hb9)
        | ((with_reducible show wpList _ _ _ ({ dst := _, op := Op.store 25 (Operand.tmp 4) _, type := _, pos := _, after := _, guard := _ } :: _) _ _); refine wpList_store_U _ _ rfl rfl (w.heap.size + 1) Url.zero Url.zero rfl rfl hT.res ?_))
      refine ret_U2 (u := Url.zero) rfl rfl rfl rfl (setRow_U hT.res) ⟨?_, below_setRow hT.bel (by omega) _⟩
      rfl
    · refine wpAny_take (i := 4) rfl (by kernel_rfl) (by kernel_rfl) (by kernel_rfl) (fun _ _ _ h => h) (y_slice_to (l := b.path) (r := Url.dirOf b.path) (k := (dl : Int)) (Operand.tmp 73) (Operand.tmp 74) rfl rfl (by kernel_rfl) (by kernel_rfl) (by omega) (by omega) HD1.out) ?_
      refine wpAny_take (i := 6) (v := .string (str kc)) rfl (by kernel_rfl) (by kernel_rfl) (by kernel_rfl) (fun _ _ _ h => h) (Or.inl ⟨by kernel_rfl, fun W => by go_simp; omega⟩) ?_
      refine any_one 0 71 (uVal (Url.bare b)) (by kernel_rfl) rfl rfl rfl (exec_load_U (Operand.tmp 7) rfl b7 (Url.bare b) (by go_simp) hVd) ?_
      refine wpAny_ready (rs := [7]) (by kernel_rfl) (by simp) ?_
      refine AllReady.cons rfl (fun K hK => ?_) AllReady.nil
      go_simp
      refine (tlc _).mono ?_
      rintro e w7 ⟨rfl, hb7⟩
      refine hK _ _ ?_
      clear hK K
      have hV7 := hVd.below hb7
      have hT7 := hTd.step hb7
      refine any_store_U 8 (by kernel_rfl) rfl (Operand.tmp 7) (Operand.tmp 78) rfl rfl b7 v (Url.bare b) (by go_simp) (by go_simp) hV7 ?_
      refine wpAny_done (by kernel_rfl) ?_ _
      have hV2 := setRow_U (v := v) hV7
      have hT2 := hT7.setRow hlt v
      generalize World.setRow w7 b7 (uCells v) = w8 at hV2 hT2 ⊢
      clear hV hT
      rename UAt w8 b7 v => hV
      rename TU w.heap.size w w8 b => hT
      go_wp2_with (first
        | ((with_reducible show wpList _ _ _ ({ dst := _, op := Op.load 25 (Operand.tmp 7), type := _, pos := _, after := _, guard := _ } :: _) _ _); refine wpList_load_Ug _ rfl (by rfl) (b7) v rfl hV ?_)
        | (go_at_call 13; refine (stc _).mono ?_; rintro e w9 ⟨rfl, hb9⟩; replace hV := hV.below hb9; replace hT := hT.step hb9; clear hb9)
        | ((with_reducible show wpList _ _ _ ({ dst := _, op := Op.store 25 (Operand.tmp 4) _, type := _, pos := _, after := _, guard := _ } :: _) _ _); refine wpList_store_U _ _ rfl rfl (w.heap.size + 1) Url.zero Url.zero rfl rfl hT.res ?_))
      refine ret_U2 (u := Url.zero) rfl rfl rfl rfl (setRow_U hT.res) ⟨?_, below_setRow hT.bel (by omega) _⟩
      rfl
set_option maxHeartbeats 8000000 in
set_option maxRecDepth 100000 in
theorem RJoined_dir_fine (b : Url.U) (x : UInt8) (t : List UInt8) (w : World) (g : Url.Good b) (hc : (x :: t).length ≤ 2048) (hs : Url.hasSch (x :: t) = false) (h35 : ¬ x = 35) (h63 : ¬ x = 63) (h2 : Url.slash x = false) (hm : ¬ 2048 < (Url.str (Url.turned b (x :: t))).length) :
    Calls Tryz.prog 50 #[uVal b, .string (str (x :: t))] w fun e w' => e = .returned (.tuple #[uVal (Url.turned b (x :: t)), .int .i64 (0)]) ∧ Below w.heap.size w w' := by
  have hzu := (zero_of_info zeroURL).1
  have hT : TU w.heap.size w ((w.alloc (.cells (uCells b) 25)).alloc (.cells (uCells Url.zero) 25)) b :=
    ⟨UAt.below (heap_alloc_last _ _) ((Below.refl _ _).alloc (Nat.le_refl _) _), alloc_two _ _ _, ((Below.refl _ w).alloc (Nat.le_refl _) _).alloc (by simp) _⟩
  have schc : ∀ W : World, Calls Tryz.prog 36 #[.string (str (x :: t))] W fun e w' => e = .returned (.int .i64 0) ∧ w' = W := fun W => by
    have := RScheme_any (x :: t) W (by omega)
    rw [(Url.schemeN_zero (x :: t)).2 (fun h => by rw [← Url.hasSch_iff, hs] at h; cases h)] at this
    exact this
  have hs1 : (str (x :: t)).size = t.length + 1 := str_size _
  have hext1 : (str (x :: t)).extract 1 (t.length + 1) = str t := str_from (x :: t) 1
  have hat := str_first x t
  have he := empty_isnt (l := x :: t) (by simp)
  have h1le : (1 : Int) ≤ ((t.length + 1 : Nat) : Int) := by omega
  have h1le2 : (1 : Int) ≤ (t.length : Int) + 1 := by omega
  have hctl : t.length + 1 ≤ 2048 := hc
  have hstl := stay_len b (x :: t) g
  have hfit : Fits (Url.turned b (x :: t)) := tail_fits (Nat.le_trans (good_fits g).2.2 (by decide)) (by have := g.len; rw [Url.str_parts] at this; simp only [List.length_append, List.length_cons] at this; omega) (good_fits g).1.2.2.2.2.2.1 (good_fits g).1.2.2.2.2.2.2 (by rw [List.length_append]; omega)
  have stc : ∀ W : World, Calls Tryz.prog 13 #[uVal (Url.turned b (x :: t))] W fun e w' => e = .returned (.string (str (Url.str (Url.turned b (x :: t))))) ∧ Below W.heap.size W w' := fun W => RString_any _ W hfit
  have hss := str_size (Url.str (Url.turned b (x :: t)))
  clear hfit hstl
  have n35 : ((x.toNat : Int) == 35) = false := byte_neq (m := 35) h35
  have n63 : ((x.toNat : Int) == 63) = false := byte_neq (m := 63) h63
  have sl1 : ∀ W : World, Calls Tryz.prog 52 #[.string (str (x :: t))] W fun e w' => e = .returned (.bool false) ∧ w' = W := fun W => by
    have := RSlash5_any (x :: t) W
    rw [show Url.slashed (x :: t) = false from h2] at this
    exact this
  obtain ⟨hd1, hd2⟩ := Url.dirOf_prefix b.path
  have hpl := (good_fits g).2.1
  have tlc : ∀ W : World, Calls Tryz.prog 41 #[uVal (Url.bare b), .string (str (Url.dirOf b.path ++ x :: t))] W fun e w' => e = .returned (uVal (Url.turned b (x :: t))) ∧ Below W.heap.size W w' := fun W => by
    rw [Url.turned_else b h35 h63 h2 t]
    exact RTail_any (Url.bare b) _ W (by rw [List.length_append]; omega)
  have hadd : str (Url.dirOf b.path) ++ str (x :: t) = str (Url.dirOf b.path ++ x :: t) := str_add _ _
  have hz1 : (str (Url.dirOf b.path)).size ≤ 2048 := by rw [str_size]; omega
  have hps := str_size b.path
  obtain ⟨dl, hdl⟩ : ∃ dl, (Url.dirOf b.path).length = dl := ⟨_, rfl⟩
  rw [hdl] at hd1 hd2
  have HD1 : Hid (List.take dl b.path = Url.dirOf b.path) := hd1
  have HD2 : Hid ((Url.dirOf b.path).length = dl) := hdl
  clear hd1 hdl
  clear h35 h63 h2 hs
  generalize Url.dirOf b.path ++ x :: t = kc at *
  generalize Url.turned b (x :: t) = v at *
  have hm2 : ¬ (2048 : Int) < ((Url.str v).length : Int) := by omega
  clear hm
  generalize Url.str v = ss at *
  unfold uVal at hzu
  unfold uVal
  unfold uCells at hzu hT ⊢
  go_enter Tryz.func50, Tryz.ntmps50
  go_upto_region 1 with fail
  generalize (w.alloc (.cells #[.string (str b.sch), .string (str b.host), .int .i64 b.port, .string (str b.path), .string (str b.query), .string (str b.frag), .bool b.hq, .bool b.hf] 25)).alloc (.cells #[.string (str Url.zero.sch), .string (str Url.zero.host), .int .i64 Url.zero.port, .string (str Url.zero.path), .string (str Url.zero.query), .string (str Url.zero.frag), .bool Url.zero.hq, .bool Url.zero.hf] 25) = w0 at hT ⊢
  go_upto_region 9 with (first
    | (go_at_call 36; refine (schc _).mono ?_; rintro e w2 ⟨rfl, hw2⟩; rw [hw2]; clear hw2)
    | (go_at_call_of 52 (str (x :: t)); refine (sl1 _).mono ?_; rintro e w3 ⟨rfl, hw3⟩; rw [hw3]; clear hw3)
    | ((with_reducible show wpList _ _ _ ({ dst := _, op := Op.load 25 (Operand.tmp 2), type := _, pos := _, after := _, guard := _ } :: _) _ _); refine wpList_load_Ug _ rfl (by rfl) (w.heap.size) b rfl hT.at_ ?_)
    | ((with_reducible show wpList _ _ _ ({ dst := _, op := Op.store 25 (Operand.tmp 7) _, type := _, pos := _, after := _, guard := _ } :: _) _ _); refine wpList_store_U _ _ rfl rfl _ b Url.zero rfl rfl (heap_alloc_last _ _) ?_; have hV := setRow_U (v := b) (u := Url.zero) (heap_alloc_last w0 (.cells #[.string (str Url.zero.sch), .string (str Url.zero.host), .int .i64 Url.zero.port, .string (str Url.zero.path), .string (str Url.zero.query), .string (str Url.zero.frag), .bool Url.zero.hq, .bool Url.zero.hf] 25)); have hs0 := below_setRow ((Below.refl _ w0).alloc (Nat.le_refl _) (.cells #[.string (str Url.zero.sch), .string (str Url.zero.host), .int .i64 Url.zero.port, .string (str Url.zero.path), .string (str Url.zero.query), .string (str Url.zero.frag), .bool Url.zero.hq, .bool Url.zero.hf] 25)) (Nat.le_refl _) (uCells b); have hlt := hT.res.lt; replace hT := hT.step hs0; generalize World.setRow (World.alloc w0 (.cells #[.string (str Url.zero.sch), .string (str Url.zero.host), .int .i64 Url.zero.port, .string (str Url.zero.path), .string (str Url.zero.query), .string (str Url.zero.frag), .bool Url.zero.hq, .bool Url.zero.hf] 25)) (World.heap w0).size (uCells b) = w1 at hV hT ⊢; generalize (World.heap w0).size = b7 at hV hlt ⊢; clear hs0))
  have f7 := hV.frozen 7
  have f5 := (hV.hf false).frozen 5
  have x7 := hV.cell 7
  have x5 := (hV.hf false).cell 5
  simp only [uCells] at x7 x5
  go_upto_region 14 with fail
  have hV2 : UAt ((w1.setCell ⟨b7, 7, none⟩ (.bool false)).setCell ⟨b7, 5, none⟩ (.string ⟨#[]⟩)) b7 (Url.bare b) := (hV.hf false).frag []
  have hT2 : TU w.heap.size w ((w1.setCell ⟨b7, 7, none⟩ (.bool false)).setCell ⟨b7, 5, none⟩ (.string ⟨#[]⟩)) b := (hT.cell hlt _).cell hlt _
  generalize (w1.setCell ⟨b7, 7, none⟩ (.bool false)).setCell ⟨b7, 5, none⟩ (.string ⟨#[]⟩) = w2 at hV2 hT2 ⊢
  clear hV hT f7 f5 x7 x5
  rename UAt w2 b7 (Url.bare b) => hV
  rename TU w.heap.size w w2 b => hT
  have a3 := hT.at_.cell 3
  simp only [uCells] at a3
  go_upto_block 1 with (go_at_call_of 52 (str (x :: t)); refine (sl1 _).mono ?_; rintro e w3 ⟨rfl, hw3⟩; rw [hw3]; clear hw3)
  go_cut [8] from 59 to 70 (fun s w' => s = Value.int .i64 (dl : Int) ∧ w' = w2)
  case first =>
    go_wp2_with fail
    go_loop [8] (fun i => ∃ k : Nat, k ≤ b.path.length ∧ i = .int .i64 (k : Int) ∧ Hid (Url.dirOf b.path = Url.dirOf (b.path.take k))) (fun i => (intOf i).toNat)
    case atStart => exact ⟨b.path.length, Nat.le_refl _, rfl, by rw [List.take_length]; rfl⟩
    case round =>
      obtain ⟨k, hk, rfl, HD⟩ := hrel
      cases k with
      | zero =>
        have hz : dl = 0 := by rw [← HD2.out, HD.out]; rfl
        go_wp2
        go_meet
        case rel => exact ⟨by rw [hz]; rfl, rfl⟩
      | succ k =>
        have hlt2 : k < b.path.length := hk
        have e1 : ((k + 1 : Nat) : Int) - 1 = (k : Int) := by omega
        have hp1 : (0 : Int) < ((k + 1 : Nat) : Int) := by omega
        have hp2 : (0 : Int) < (k : Int) + 1 := by omega
        have hg2 : (str b.path)[k]'(by rw [str_size]; exact hlt2) = b.path[k] := rfl
        by_cases hx : b.path[k] = 47
        · have hx2 : ((b.path[k].toNat : Int) != 47) = false := by rw [hx]; rfl
          have hl2 : dl = k + 1 := by rw [← HD2.out, HD.out, Url.dirOf_hit b.path k hlt2 hx, List.length_take]; omega
          clear hx
          go_wp2
          go_meet
          case rel => exact ⟨by rw [hl2]; rfl, rfl⟩
        · have hx2 : ((b.path[k].toNat : Int) != 47) = true := by rw [bne_iff_ne]; exact fun h => hx (UInt8.toNat_inj.1 (by show _ = 47; omega))
          have HD3 : Hid _ := HD.out.trans (Url.dirOf_miss b.path k hlt2 hx)
          clear hx
          go_wp2
          go_round
          case rel => exact ⟨k, by omega, by go_num, HD3⟩
          case measure => simp [intOf]
  case rest =>
    obtain ⟨rfl, rfl⟩ := hcut
    go_upto_region 13 with fail
    refine wp_region_any (by kernel_rfl) ?_
    change wpAny _ _ _ _ _ _ _ (World.drew _)
    have hTd := hT.step ((Below.refl _ _).drew)
    have hVd := hV.below ((Below.refl _ _).drew)
    refine wpAny_take (i := 1) (v := .pointer (some ⟨w.heap.size, 3, none⟩)) rfl (by kernel_rfl) (by kernel_rfl) (by kernel_rfl) (fun _ _ _ h => h) (Or.inl ⟨by rfl, fun W => by go_simp⟩) ?_
    refine wpAny_take (i := 3) rfl (by kernel_rfl) (by kernel_rfl) (by kernel_rfl) (fun _ _ _ h => h) (y_move (v := .int .i64 (dl : Int)) _ rfl rfl rfl) ?_
    refine wpAny_take (i := 5) rfl (by kernel_rfl) (by kernel_rfl) (by kernel_rfl) (fun _ _ _ h => h) (y_move (v := .string (str (x :: t))) _ rfl rfl rfl) ?_
    refine any_both 0 2 71 73 (uVal (Url.bare b)) (.string (str b.path)) (by kernel_rfl) rfl rfl rfl rfl rfl rfl (exec_load_U (Operand.tmp 7) rfl b7 (Url.bare b) (by go_simp) hVd) (by have hcc := hTd.at_.cell 3; simp only [uCells] at hcc; go_simp) ?_ ?_
    · refine any_one 2 73 (.string (str b.path)) (by kernel_rfl) rfl rfl rfl (by have hcc := hTd.at_.cell 3; simp only [uCells] at hcc; go_simp) ?_
      refine wpAny_take (i := 4) rfl (by kernel_rfl) (by kernel_rfl) (by kernel_rfl) (fun _ _ _ h => h) (y_slice_to (l := b.path) (r := Url.dirOf b.path) (k := (dl : Int)) (Operand.tmp 73) (Operand.tmp 74) rfl rfl (by kernel_rfl) (by kernel_rfl) (by omega) (by omega) HD1.out) ?_
      refine wpAny_take (i := 6) (v := .string (str kc)) rfl (by kernel_rfl) (by kernel_rfl) (by kernel_rfl) (fun _ _ _ h => h) (Or.inl ⟨by kernel_rfl, fun W => by go_simp; omega⟩) ?_
      refine wpAny_ready (rs := [7]) (by kernel_rfl) (by simp) ?_
      refine AllReady.cons rfl (fun K hK => ?_) AllReady.nil
      go_simp
      refine (tlc _).mono ?_
      rintro e w7 ⟨rfl, hb7⟩
      refine hK _ _ ?_
      clear hK K
      have hV7 := hVd.below hb7
      have hT7 := hTd.step hb7
      refine any_store_U 8 (by kernel_rfl) rfl (Operand.tmp 7) (Operand.tmp 78) rfl rfl b7 v (Url.bare b) (by go_simp) (by go_simp) hV7 ?_
      refine wpAny_done (by kernel_rfl) ?_ _
      have hV2 := setRow_U (v := v) hV7
      have hT2 := hT7.setRow hlt v
      generalize World.setRow w7 b7 (uCells v) = w8 at hV2 hT2 ⊢
      clear hV hT
      rename UAt w8 b7 v => hV
      rename TU w.heap.size w w8 b => hT
      go_wp2_with (first
        | ((with_reducible show wpList _ _ _ ({ dst := _, op := Op.load 25 (Operand.tmp 7), type := _, pos := _, after := _, guard := _ } :: _) _ _); refine wpList_load_Ug _ rfl (by rfl) (b7) v rfl hV ?_)
        | (go_at_call 13; refine (stc _).mono ?_; rintro e w9 ⟨rfl, hb9⟩; replace hV := hV.below hb9; replace hT := hT.step hb9; clear hb9)
        | ((with_reducible show wpList _ _ _ ({ dst := _, op := Op.store 25 (Operand.tmp 4) _, type := _, pos := _, after := _, guard := _ } :: _) _ _); refine wpList_store_U _ _ rfl rfl (w.heap.size + 1) v Url.zero rfl rfl hT.res ?_))
      refine ret_U2 (u := v) rfl rfl rfl rfl (setRow_U hT.res) ⟨?_, below_setRow hT.bel (by omega) _⟩
      rfl
    · refine wpAny_take (i := 4) rfl (by kernel_rfl) (by kernel_rfl) (by kernel_rfl) (fun _ _ _ h => h) (y_slice_to (l := b.path) (r := Url.dirOf b.path) (k := (dl : Int)) (Operand.tmp 73) (Operand.tmp 74) rfl rfl (by kernel_rfl) (by kernel_rfl) (by omega) (by omega) HD1.out) ?_
      refine wpAny_take (i := 6) (v := .string (str kc)) rfl (by kernel_rfl) (by kernel_rfl) (by kernel_rfl) (fun _ _ _ h => h) (Or.inl ⟨by kernel_rfl, fun W => by go_simp; omega⟩) ?_
      refine any_one 0 71 (uVal (Url.bare b)) (by kernel_rfl) rfl rfl rfl (exec_load_U (Operand.tmp 7) rfl b7 (Url.bare b) (by go_simp) hVd) ?_
      refine wpAny_ready (rs := [7]) (by kernel_rfl) (by simp) ?_
      refine AllReady.cons rfl (fun K hK => ?_) AllReady.nil
      go_simp
      refine (tlc _).mono ?_
      rintro e w7 ⟨rfl, hb7⟩
      refine hK _ _ ?_
      clear hK K
      have hV7 := hVd.below hb7
      have hT7 := hTd.step hb7
      refine any_store_U 8 (by kernel_rfl) rfl (Operand.tmp 7) (Operand.tmp 78) rfl rfl b7 v (Url.bare b) (by go_simp) (by go_simp) hV7 ?_
      refine wpAny_done (by kernel_rfl) ?_ _
      have hV2 := setRow_U (v := v) hV7
      have hT2 := hT7.setRow hlt v
      generalize World.setRow w7 b7 (uCells v) = w8 at hV2 hT2 ⊢
      clear hV hT
      rename UAt w8 b7 v => hV
      rename TU w.heap.size w w8 b => hT
      go_wp2_with (first
        | ((with_reducible show wpList _ _ _ ({ dst := _, op := Op.load 25 (Operand.tmp 7), type := _, pos := _, after := _, guard := _ } :: _) _ _); refine wpList_load_Ug _ rfl (by rfl) (b7) v rfl hV ?_)
        | (go_at_call 13; refine (stc _).mono ?_; rintro e w9 ⟨rfl, hb9⟩; replace hV := hV.below hb9; replace hT := hT.step hb9; clear hb9)
        | ((with_reducible show wpList _ _ _ ({ dst := _, op := Op.store 25 (Operand.tmp 4) _, type := _, pos := _, after := _, guard := _ } :: _) _ _); refine wpList_store_U _ _ rfl rfl (w.heap.size + 1) v Url.zero rfl rfl hT.res ?_))
      refine ret_U2 (u := v) rfl rfl rfl rfl (setRow_U hT.res) ⟨?_, below_setRow hT.bel (by omega) _⟩
      rfl
end Go.Proofs.YtnmkhbelmdokmaaGreatDoor
/- The contract of the reference's Join of layer 5. -/
namespace Go.Proofs.YtnmkhbelmdokmaaGreatDoor
open Go.RowKit
theorem joinC_no {b : Url.U} {c : List UInt8} (hs : Url.hasSch c = false) (h2 : Url.slashed2 c = false) : Url.joinC b c = if 2048 < (Url.str (Url.turned b c)).length then (5, Url.zero) else (0, Url.turned b c) := by
  unfold Url.joinC
  rw [if_neg (by rw [hs]; decide), if_neg (by rw [h2]; decide)]
theorem RJoined_any (b : Url.U) (c : List UInt8) (w : World) (g : Url.Good b) (hc : c.length ≤ 2048)
    (IH : Url.hasSch c = true → ∀ W : World, Calls Tryz.prog 22 #[uVal b, .string (str (Url.schR c))] W fun e w' => e = .returned (.tuple #[uVal (Url.join b (Url.schR c)).2, .int .i64 (Url.join b (Url.schR c)).1]) ∧ Below W.heap.size W w') :
    Calls Tryz.prog 50 #[uVal b, .string (str c)] w fun e w' => e = .returned (.tuple #[uVal (Url.joinC b c).2, .int .i64 (Url.joinC b c).1]) ∧ Below w.heap.size w w' := by
  cases hs : Url.hasSch c
  · cases c with
    | nil =>
      have gb := (Url.good_bare g).len
      rw [joinC_no hs rfl, Url.turned_nil g, if_neg (by omega)]
      exact RJoined_nil b () w g hc
    | cons x t =>
      by_cases h35 : x = 35
      · rw [joinC_no hs (by subst h35; rfl)]
        by_cases hm : 2048 < (Url.str (Url.turned b (x :: t))).length
        · rw [if_pos hm]; exact RJoined_frag_much b x t w g hc hs h35 hm
        · rw [if_neg hm]; exact RJoined_frag_fine b x t w g hc hs h35 hm
      · by_cases h63 : x = 63
        · rw [joinC_no hs (by subst h63; rfl)]
          by_cases hm : 2048 < (Url.str (Url.turned b (x :: t))).length
          · rw [if_pos hm]; exact RJoined_query_much b x t w g hc hs h63 hm
          · rw [if_neg hm]; exact RJoined_query_fine b x t w g hc hs h63 hm
        · cases h2 : Url.slash x
          · rw [joinC_no hs (by show (Url.slash x && Url.slashed t) = false; rw [h2]; rfl)]
            by_cases hm : 2048 < (Url.str (Url.turned b (x :: t))).length
            · rw [if_pos hm]; exact RJoined_dir_much b x t w g hc hs h35 h63 h2 hm
            · rw [if_neg hm]; exact RJoined_dir_fine b x t w g hc hs h35 h63 h2 hm
          · cases h3 : Url.slashed t
            · rw [joinC_no hs (by show (Url.slash x && Url.slashed t) = false; rw [h3, Bool.and_false])]
              by_cases hm : 2048 < (Url.str (Url.turned b (x :: t))).length
              · rw [if_pos hm]; exact RJoined_path_much b x t w g hc hs h35 h63 h2 h3 hm
              · rw [if_neg hm]; exact RJoined_path_fine b x t w g hc hs h35 h63 h2 h3 hm
            · unfold Url.joinC
              rw [if_neg (by rw [hs]; decide), if_pos (by show (Url.slash x && Url.slashed t) = true; rw [h2, h3]; rfl)]
              exact RJoined_place b x t w g hc hs h2 h3
  · unfold Url.joinC
    rw [if_pos hs]
    by_cases h1 : Url.sch c = b.sch
    · cases h2 : Url.slashed (Url.schR c)
      · rw [if_pos ⟨h1, rfl⟩]
        exact RJoined_again b c w g hc hs h1 h2 _ _ (IH hs)
      · rw [if_neg (fun h => by cases h.2)]
        exact RJoined_slash b c w g hc hs h1 h2
    · rw [if_neg (fun h => h1 h.1)]
      exact RJoined_other b c w g hc hs h1
set_option maxHeartbeats 4000000 in
set_option maxRecDepth 100000 in
theorem RJoin_bad (b : Url.U) (l : List UInt8) (w : World) (hu : Fits b) (hzb : (Url.str b).length ≤ 1000000) (_hz : l.length ≤ 1000000) (hm : Url.may b = false) :
    Calls Tryz.prog 22 #[uVal b, .string (str l)] w fun e w' => e = .returned (.tuple #[uVal (Url.zero), .int .i64 (1)]) ∧ Below w.heap.size w w' := by
  have hzu := (zero_of_info zeroURL).1
  have hT : TU w.heap.size w ((w.alloc (.cells (uCells b) 25)).alloc (.cells (uCells Url.zero) 25)) b :=
    ⟨UAt.below (heap_alloc_last _ _) ((Below.refl _ _).alloc (Nat.le_refl _) _), alloc_two _ _ _, ((Below.refl _ w).alloc (Nat.le_refl _) _).alloc (by simp) _⟩
  have mayc : ∀ W : World, Calls Tryz.prog 30 #[uVal b] W fun e w' => e = .returned (.bool (Url.may b)) ∧ Below W.heap.size W w' := fun W => RMay5_any b W hu hzb
  rw [hm] at mayc
  unfold uVal at hzu
  unfold uVal
  unfold uCells at hzu hT ⊢
  go_enter Tryz.func22, Tryz.ntmps22
  go_upto_region 1 with fail
  generalize (w.alloc (.cells #[.string (str b.sch), .string (str b.host), .int .i64 b.port, .string (str b.path), .string (str b.query), .string (str b.frag), .bool b.hq, .bool b.hf] 25)).alloc (.cells #[.string (str Url.zero.sch), .string (str Url.zero.host), .int .i64 Url.zero.port, .string (str Url.zero.path), .string (str Url.zero.query), .string (str Url.zero.frag), .bool Url.zero.hq, .bool Url.zero.hf] 25) = w0 at hT ⊢
  go_wp2_with (first
    | ((with_reducible show wpList _ _ _ ({ dst := _, op := Op.load 25 (Operand.tmp 2), type := _, pos := _, after := _, guard := _ } :: _) _ _); refine wpList_load_Ug _ rfl (by rfl) (w.heap.size) b rfl hT.at_ ?_)
    | (go_at_call 30; refine (mayc _).mono ?_; rintro e w1 ⟨rfl, hb1⟩; replace hT := hT.step hb1; clear hb1)
    | ((with_reducible show wpList _ _ _ ({ dst := _, op := Op.store 25 (Operand.tmp 4) _, type := _, pos := _, after := _, guard := _ } :: _) _ _); refine wpList_store_U _ _ rfl rfl (w.heap.size + 1) Url.zero Url.zero rfl rfl hT.res ?_))
  refine ret_U2 (u := Url.zero) rfl rfl rfl rfl (setRow_U hT.res) ⟨rfl, below_setRow hT.bel (by omega) _⟩
set_option maxHeartbeats 4000000 in
set_option maxRecDepth 100000 in
theorem RJoin_long (b : Url.U) (l : List UInt8) (w : World) (hu : Fits b) (hzb : (Url.str b).length ≤ 1000000) (hz : l.length ≤ 1000000) (hm : Url.may b = true) (hl : 2048 < (Url.clean l).length) :
    Calls Tryz.prog 22 #[uVal b, .string (str l)] w fun e w' => e = .returned (.tuple #[uVal (Url.zero), .int .i64 (5)]) ∧ Below w.heap.size w w' := by
  have hzu := (zero_of_info zeroURL).1
  have hT : TU w.heap.size w ((w.alloc (.cells (uCells b) 25)).alloc (.cells (uCells Url.zero) 25)) b :=
    ⟨UAt.below (heap_alloc_last _ _) ((Below.refl _ _).alloc (Nat.le_refl _) _), alloc_two _ _ _, ((Below.refl _ w).alloc (Nat.le_refl _) _).alloc (by simp) _⟩
  have mayc : ∀ W : World, Calls Tryz.prog 30 #[uVal b] W fun e w' => e = .returned (.bool (Url.may b)) ∧ Below W.heap.size W w' := fun W => RMay5_any b W hu hzb
  rw [hm] at mayc
  have hcl := Url.clean_len l
  have clc : ∀ W : World, Calls Tryz.prog 35 #[.string (str l)] W fun e w' => e = .returned (.string (str (Url.clean l))) ∧ Below W.heap.size W w' := fun W => RClean_any l W (by omega)
  generalize Url.clean l = c at *
  have hsz := str_size c
  have hl2 : (2048 : Int) < (c.length : Int) := by omega
  clear hl
  unfold uVal at hzu
  unfold uVal
  unfold uCells at hzu hT ⊢
  go_enter Tryz.func22, Tryz.ntmps22
  go_upto_region 1 with fail
  generalize (w.alloc (.cells #[.string (str b.sch), .string (str b.host), .int .i64 b.port, .string (str b.path), .string (str b.query), .string (str b.frag), .bool b.hq, .bool b.hf] 25)).alloc (.cells #[.string (str Url.zero.sch), .string (str Url.zero.host), .int .i64 Url.zero.port, .string (str Url.zero.path), .string (str Url.zero.query), .string (str Url.zero.frag), .bool Url.zero.hq, .bool Url.zero.hf] 25) = w0 at hT ⊢
  go_wp2_with (first
    | ((with_reducible show wpList _ _ _ ({ dst := _, op := Op.load 25 (Operand.tmp 2), type := _, pos := _, after := _, guard := _ } :: _) _ _); refine wpList_load_Ug _ rfl (by rfl) (w.heap.size) b rfl hT.at_ ?_)
    | (go_at_call 30; refine (mayc _).mono ?_; rintro e w1 ⟨rfl, hb1⟩; replace hT := hT.step hb1; clear hb1)
    | (go_at_call 35; refine (clc _).mono ?_; rintro e w1 ⟨rfl, hb1⟩; replace hT := hT.step hb1; clear hb1)
    | ((with_reducible show wpList _ _ _ ({ dst := _, op := Op.store 25 (Operand.tmp 4) _, type := _, pos := _, after := _, guard := _ } :: _) _ _); refine wpList_store_U _ _ rfl rfl (w.heap.size + 1) Url.zero Url.zero rfl rfl hT.res ?_))
  refine ret_U2 (u := Url.zero) rfl rfl rfl rfl (setRow_U hT.res) ⟨rfl, below_setRow hT.bel (by omega) _⟩
set_option maxHeartbeats 4000000 in
set_option maxRecDepth 100000 in
theorem RJoin_main (b : Url.U) (l : List UInt8) (w : World) (hu : Fits b) (hzb : (Url.str b).length ≤ 1000000) (hz : l.length ≤ 1000000) (hm : Url.may b = true) (hl : ¬ 2048 < (Url.clean l).length) (v : Url.U) (ev : Int) (jdc : ∀ W : World, Calls Tryz.prog 50 #[uVal b, .string (str (Url.clean l))] W fun e w' => e = .returned (.tuple #[uVal v, .int .i64 ev]) ∧ Below W.heap.size W w') :
    Calls Tryz.prog 22 #[uVal b, .string (str l)] w fun e w' => e = .returned (.tuple #[uVal (v), .int .i64 (ev)]) ∧ Below w.heap.size w w' := by
  have hzu := (zero_of_info zeroURL).1
  have hT : TU w.heap.size w ((w.alloc (.cells (uCells b) 25)).alloc (.cells (uCells Url.zero) 25)) b :=
    ⟨UAt.below (heap_alloc_last _ _) ((Below.refl _ _).alloc (Nat.le_refl _) _), alloc_two _ _ _, ((Below.refl _ w).alloc (Nat.le_refl _) _).alloc (by simp) _⟩
  have mayc : ∀ W : World, Calls Tryz.prog 30 #[uVal b] W fun e w' => e = .returned (.bool (Url.may b)) ∧ Below W.heap.size W w' := fun W => RMay5_any b W hu hzb
  rw [hm] at mayc
  have hcl := Url.clean_len l
  have clc : ∀ W : World, Calls Tryz.prog 35 #[.string (str l)] W fun e w' => e = .returned (.string (str (Url.clean l))) ∧ Below W.heap.size W w' := fun W => RClean_any l W (by omega)
  generalize Url.clean l = c at *
  have hsz := str_size c
  have hl2 : ¬ (2048 : Int) < (c.length : Int) := by omega
  clear hl
  unfold uVal at hzu
  unfold uVal
  unfold uCells at hzu hT ⊢
  go_enter Tryz.func22, Tryz.ntmps22
  go_upto_region 1 with fail
  generalize (w.alloc (.cells #[.string (str b.sch), .string (str b.host), .int .i64 b.port, .string (str b.path), .string (str b.query), .string (str b.frag), .bool b.hq, .bool b.hf] 25)).alloc (.cells #[.string (str Url.zero.sch), .string (str Url.zero.host), .int .i64 Url.zero.port, .string (str Url.zero.path), .string (str Url.zero.query), .string (str Url.zero.frag), .bool Url.zero.hq, .bool Url.zero.hf] 25) = w0 at hT ⊢
  go_wp2_with (first
    | ((with_reducible show wpList _ _ _ ({ dst := _, op := Op.load 25 (Operand.tmp 2), type := _, pos := _, after := _, guard := _ } :: _) _ _); refine wpList_load_Ug _ rfl (by rfl) (w.heap.size) b rfl hT.at_ ?_)
    | (go_at_call 30; refine (mayc _).mono ?_; rintro e w1 ⟨rfl, hb1⟩; replace hT := hT.step hb1; clear hb1)
    | (go_at_call 35; refine (clc _).mono ?_; rintro e w1 ⟨rfl, hb1⟩; replace hT := hT.step hb1; clear hb1)
    | (go_at_call 50; refine (jdc _).mono ?_; rintro e w1 ⟨rfl, hb1⟩; replace hT := hT.step hb1; clear hb1)
    | ((with_reducible show wpList _ _ _ ({ dst := _, op := Op.store 25 (Operand.tmp 4) _, type := _, pos := _, after := _, guard := _ } :: _) _ _); refine wpList_store_U _ _ rfl rfl (w.heap.size + 1) v Url.zero rfl rfl hT.res ?_))
  refine ret_U2 (u := v) rfl rfl rfl rfl (setRow_U hT.res) ⟨rfl, below_setRow hT.bel (by omega) _⟩
theorem RJoin5_any (b : Url.U) (hu : Fits b) (hzb : (Url.str b).length ≤ 1000000) : ∀ (n : Nat) (l : List UInt8) (w : World), l.length ≤ n → l.length ≤ 1000000 →
    Calls Tryz.prog 22 #[uVal b, .string (str l)] w fun e w' => e = .returned (.tuple #[uVal (Url.join b l).2, .int .i64 (Url.join b l).1]) ∧ Below w.heap.size w w'
  | n, l, w, hn, hz => by
    cases hm : Url.may b
    · rw [Url.join_bad l hm]
      exact RJoin_bad b l w hu hzb hz hm
    · by_cases hl : 2048 < (Url.clean l).length
      · rw [Url.join_long hm hl]
        exact RJoin_long b l w hu hzb hz hm hl
      · rw [Url.join_C hm hl]
        refine RJoin_main b l w hu hzb hz hm hl _ _ (fun W => RJoined_any b _ W (Url.may_good hm) (by omega) (fun hs W2 => ?_))
        have h1 := Url.schR_lt hs
        have h2 := Url.clean_len l
        cases n with
        | zero => omega
        | succ n => exact RJoin5_any b hu hzb n _ W2 (by omega) (by omega)
end Go.Proofs.YtnmkhbelmdokmaaGreatDoor
