/- The walk of JoinKeyed: whatever URL comes in, the law answers true. -/
import Derived.Test.YtnmkhbelmdokmabGreatDoorKJoin
namespace Go.Proofs.YtnmkhbelmdokmabGreatDoor.joinKeyed
open Go.RowKit
structure B1 (w W : World) (u : Url.U) : Prop where
  at_ : UAt W w.heap.size u
  bel : Below w.heap.size w W
theorem B1.step {w W W' : World} {u : Url.U} (h : B1 w W u) (hb : Below W.heap.size W W') : B1 w W' u := ⟨h.at_.below hb, Go.Proofs.YtnmkhbelmdokmabGreatDoor.bel h.bel hb⟩
set_option maxHeartbeats 4000000 in
set_option maxRecDepth 100000 in
theorem walk (u : Url.U) (w : World) (fu : Fits u) (hE : Env w) :
    Calls Tryz.prog 5 #[uVal u] w fun e w' => e = .returned (.bool true) ∧ Below w.heap.size w w' := by
  have hzu := (zero_of_info zeroURL).1
  have hB : B1 w (w.alloc (.cells (uCells u) 23)) u := ⟨heap_alloc_last _ _, (Below.refl _ w).alloc (Nat.le_refl _) _⟩
  unfold uVal at hzu
  unfold uCells at hzu hB
  cases h2 : farU u
  case true =>
    unfold uVal uCells
    go_enter Tryz.func5, Tryz.ntmps5
    go_upto_region 1 with fail
    generalize w.alloc (.cells #[.string (str u.sch), .string (str u.host), .int .i64 u.port, .string (str u.path), .string (str u.query), .string (str u.frag), .bool u.hq, .bool u.hf] 23) = w0 at hB ⊢
    go_wp2_with (first
      | ((with_reducible show wpList _ _ _ ({ dst := _, op := Op.load 23 (Operand.tmp 1), type := _, pos := _, after := _, guard := _ } :: _) _ _); refine wpList_load_Ug _ rfl (by rfl) (w.heap.size) u rfl hB.at_ ?_)
      | (go_at_call 6; refine (far_any _ _ (by assumption)).mono ?_; rintro e w1 ⟨rfl, hb1⟩; replace hB := hB.step hb1; clear hb1)
      | (go_at_call 8; refine (RMay5_any _ _ (by assumption) (by assumption)).mono ?_; rintro e w1 ⟨rfl, hb1⟩; replace hB := hB.step hb1; clear hb1)
      | (go_at_call 9; refine (alive5_any _ (hE.below hB.bel)).mono ?_; rintro e w1 ⟨rfl, hb1⟩; replace hB := hB.step hb1; clear hb1))
    go_ret
    exact ⟨rfl, hB.bel⟩
  have zu : (Url.str u).length ≤ 1000000 := Nat.le_trans (far_no h2).2 (by decide)
  cases h4 : Url.may u
  case false =>
    unfold uVal uCells
    go_enter Tryz.func5, Tryz.ntmps5
    go_upto_region 1 with fail
    generalize w.alloc (.cells #[.string (str u.sch), .string (str u.host), .int .i64 u.port, .string (str u.path), .string (str u.query), .string (str u.frag), .bool u.hq, .bool u.hf] 23) = w0 at hB ⊢
    go_wp2_with (first
      | ((with_reducible show wpList _ _ _ ({ dst := _, op := Op.load 23 (Operand.tmp 1), type := _, pos := _, after := _, guard := _ } :: _) _ _); refine wpList_load_Ug _ rfl (by rfl) (w.heap.size) u rfl hB.at_ ?_)
      | (go_at_call 6; refine (far_any _ _ (by assumption)).mono ?_; rintro e w1 ⟨rfl, hb1⟩; replace hB := hB.step hb1; clear hb1)
      | (go_at_call 8; refine (RMay5_any _ _ (by assumption) (by assumption)).mono ?_; rintro e w1 ⟨rfl, hb1⟩; replace hB := hB.step hb1; clear hb1)
      | (go_at_call 9; refine (alive5_any _ (hE.below hB.bel)).mono ?_; rintro e w1 ⟨rfl, hb1⟩; replace hB := hB.step hb1; clear hb1))
    go_ret
    exact ⟨rfl, hB.bel⟩
  have g := Url.may_good h4
  have gb := Url.good_bare g
  have hkl := gb.len
  have kp := Url.key_parse g
  have kc : ∀ W : World, Env W → Calls Tryz.prog 13 #[uVal u] W fun e w' => e = .returned (.string (str (Url.key u))) ∧ Below W.heap.size W w' := fun W h => Key_any u W h fu
  have kc2 : ∀ W : World, Env W → Calls Tryz.prog 13 #[uVal (Url.bare u)] W fun e w' => e = .returned (.string (str (Url.key u))) ∧ Below W.heap.size W w' := fun W h => Key_any (Url.bare u) W h (bare_fits fu)
  have pc : ∀ W : World, Calls Tryz.prog 14 #[.string (str (Url.key u))] W fun e w' => e = .returned (.tuple #[uVal (Url.bare u), .int .i64 0]) ∧ Below W.heap.size W w' := fun W => by
    have := RParse_any (Url.key u) W (by show (Url.str (Url.bare u)).length ≤ _; omega)
    rw [kp.1, kp.2] at this
    exact this
  have sc : ∀ W : World, Env W → Calls Tryz.prog 15 #[uVal u, uVal (Url.bare u)] W fun e w' => e = .returned (.bool true) ∧ Below W.heap.size W w' := fun W h => by
    have := Same5_any u (Url.bare u) W h fu (bare_fits fu)
    rw [Url.key_bare, beq_self_eq_true] at this
    exact this
  have hbf : (Url.bare u).hf = false := rfl
  clear kp hkl gb g
  generalize Url.key u = k at *
  generalize Url.bare u = v at *
  unfold uVal uCells
  go_enter Tryz.func5, Tryz.ntmps5
  go_upto_region 1 with fail
  generalize w.alloc (.cells #[.string (str u.sch), .string (str u.host), .int .i64 u.port, .string (str u.path), .string (str u.query), .string (str u.frag), .bool u.hq, .bool u.hf] 23) = w0 at hB ⊢
  go_wp2_with (first
    | ((with_reducible show wpList _ _ _ ({ dst := _, op := Op.load 23 (Operand.tmp 1), type := _, pos := _, after := _, guard := _ } :: _) _ _); refine wpList_load_Ug _ rfl (by rfl) (w.heap.size) u rfl hB.at_ ?_)
    | (go_at_call 6; refine (far_any _ _ (by assumption)).mono ?_; rintro e w1 ⟨rfl, hb1⟩; replace hB := hB.step hb1; clear hb1)
    | (go_at_call 8; refine (RMay5_any _ _ (by assumption) (by assumption)).mono ?_; rintro e w1 ⟨rfl, hb1⟩; replace hB := hB.step hb1; clear hb1)
    | (go_at_call 13; refine (kc _ (hE.below hB.bel)).mono ?_; rintro e w1 ⟨rfl, hb1⟩; replace hB := hB.step hb1; clear hb1)
    | (go_at_call 13; refine (kc2 _ (hE.below hB.bel)).mono ?_; rintro e w7 ⟨rfl, hb1⟩; replace hVb4 := hVb4.below hb1; replace hB := hB.step hb1; clear hb1)
    | (go_at_call 14; refine (pc _).mono ?_; rintro e w5 ⟨rfl, hb1⟩; replace hB := hB.step hb1; clear hb1)
    | ((with_reducible show wpList _ _ _ ({ dst := _, op := Op.store 23 (Operand.tmp 4) _, type := _, pos := _, after := _, guard := _ } :: _) _ _); refine wpList_store_U _ _ rfl rfl _ v Url.zero rfl rfl (heap_alloc_last _ _) ?_; have hVb4 := setRow_U (v := v) (u := Url.zero) (heap_alloc_last w5 (.cells #[.string (str Url.zero.sch), .string (str Url.zero.host), .int .i64 Url.zero.port, .string (str Url.zero.path), .string (str Url.zero.query), .string (str Url.zero.frag), .bool Url.zero.hq, .bool Url.zero.hf] 23)); have hs := below_setRow ((Below.refl _ w5).alloc (Nat.le_refl _) (.cells #[.string (str Url.zero.sch), .string (str Url.zero.host), .int .i64 Url.zero.port, .string (str Url.zero.path), .string (str Url.zero.query), .string (str Url.zero.frag), .bool Url.zero.hq, .bool Url.zero.hf] 23)) (Nat.le_refl _) (uCells v); replace hB := hB.step hs; generalize World.setRow (World.alloc w5 (.cells #[.string (str Url.zero.sch), .string (str Url.zero.host), .int .i64 Url.zero.port, .string (str Url.zero.path), .string (str Url.zero.query), .string (str Url.zero.frag), .bool Url.zero.hq, .bool Url.zero.hf] 23)) (World.heap w5).size (uCells v) = w6 at hVb4 hB ⊢; generalize (World.heap w5).size = b4 at hVb4 ⊢; clear hs)
    | ((with_reducible show wpList _ _ _ ({ dst := _, op := Op.load 23 (Operand.tmp 4), type := _, pos := _, after := _, guard := _ } :: _) _ _); refine wpList_load_Ug _ rfl (by rfl) (b4) v rfl hVb4 ?_)
    | (go_at_call 15; refine (sc _ (hE.below hB.bel)).mono ?_; rintro e w8 ⟨rfl, hb1⟩; have hV8 := hVb4.below hb1; have ch := hV8.cell 7; simp only [uCells, hbf] at ch; replace hB := hB.step hb1; clear hb1)
    | (go_at_call 9; refine (alive5_any _ (hE.below hB.bel)).mono ?_; rintro e w1 ⟨rfl, hb1⟩; replace hB := hB.step hb1; clear hb1))
  go_ret
  exact ⟨rfl, hB.bel⟩
end Go.Proofs.YtnmkhbelmdokmabGreatDoor.joinKeyed
