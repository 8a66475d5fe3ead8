/- The walk of JoinBack: whatever URLs come in, the law answers true. -/
import Derived.Test.YtnmkhbelmdokmabGreatDoorKJoin
import Derived.Deep.CutBlock
namespace Go.Proofs.YtnmkhbelmdokmabGreatDoor.joinBack
open Go.RowKit
set_option maxHeartbeats 4000000 in
set_option maxRecDepth 100000 in
theorem walk (b u : Url.U) (w : World) (fb : Fits b) (fu : Fits u) (hE : Env w) :
    Calls Tryz.prog 4 #[uVal b, uVal u] w fun e w' => e = .returned (.bool true) ∧ Below w.heap.size w w' := by
  have hzu := (zero_of_info zeroURL).1
  have hgd := guardU
  have hB := BU.start w b u
  unfold uVal at hzu
  unfold uCells at hzu hB
  cases h1 : farU b
  case true =>
    unfold uVal uCells
    go_enter Tryz.func4, Tryz.ntmps4
    go_upto_region 1 with fail
    generalize (w.alloc (.cells #[.string (str b.sch), .string (str b.host), .int .i64 b.port, .string (str b.path), .string (str b.query), .string (str b.frag), .bool b.hq, .bool b.hf] 23)).alloc (.cells #[.string (str u.sch), .string (str u.host), .int .i64 u.port, .string (str u.path), .string (str u.query), .string (str u.frag), .bool u.hq, .bool u.hf] 23) = w0 at hB ⊢
    go_wp2_with (first
      | ((with_reducible show wpList _ _ _ ({ dst := _, op := Op.load 23 (Operand.tmp 2), type := _, pos := _, after := _, guard := _ } :: _) _ _); refine wpList_load_Ug _ rfl (by rfl) (w.heap.size) b rfl hB.b_ ?_)
      | ((with_reducible show wpList _ _ _ ({ dst := _, op := Op.load 23 (Operand.tmp 3), type := _, pos := _, after := _, guard := _ } :: _) _ _); refine wpList_load_Ug _ rfl (by rfl) (w.heap.size + 1) u rfl hB.u_ ?_)
      | (go_at_call 6; refine (far_any _ _ (by assumption)).mono ?_; rintro e w1 ⟨rfl, hb1⟩; replace hB := hB.step hb1; clear hb1)
      | (go_at_call 8; refine (RMay5_any _ _ (by assumption) (by assumption)).mono ?_; rintro e w1 ⟨rfl, hb1⟩; replace hB := hB.step hb1; clear hb1)
      | (go_at_call 9; refine (alive5_any _ (hE.below hB.bel)).mono ?_; rintro e w1 ⟨rfl, hb1⟩; replace hB := hB.step hb1; clear hb1))
    go_ret
    exact ⟨rfl, hB.bel⟩
  have zb : (Url.str b).length ≤ 1000000 := Nat.le_trans (far_no h1).2 (by decide)
  cases h2 : farU u
  case true =>
    unfold uVal uCells
    go_enter Tryz.func4, Tryz.ntmps4
    go_upto_region 1 with fail
    generalize (w.alloc (.cells #[.string (str b.sch), .string (str b.host), .int .i64 b.port, .string (str b.path), .string (str b.query), .string (str b.frag), .bool b.hq, .bool b.hf] 23)).alloc (.cells #[.string (str u.sch), .string (str u.host), .int .i64 u.port, .string (str u.path), .string (str u.query), .string (str u.frag), .bool u.hq, .bool u.hf] 23) = w0 at hB ⊢
    go_wp2_with (first
      | ((with_reducible show wpList _ _ _ ({ dst := _, op := Op.load 23 (Operand.tmp 2), type := _, pos := _, after := _, guard := _ } :: _) _ _); refine wpList_load_Ug _ rfl (by rfl) (w.heap.size) b rfl hB.b_ ?_)
      | ((with_reducible show wpList _ _ _ ({ dst := _, op := Op.load 23 (Operand.tmp 3), type := _, pos := _, after := _, guard := _ } :: _) _ _); refine wpList_load_Ug _ rfl (by rfl) (w.heap.size + 1) u rfl hB.u_ ?_)
      | (go_at_call 6; refine (far_any _ _ (by assumption)).mono ?_; rintro e w1 ⟨rfl, hb1⟩; replace hB := hB.step hb1; clear hb1)
      | (go_at_call 8; refine (RMay5_any _ _ (by assumption) (by assumption)).mono ?_; rintro e w1 ⟨rfl, hb1⟩; replace hB := hB.step hb1; clear hb1)
      | (go_at_call 9; refine (alive5_any _ (hE.below hB.bel)).mono ?_; rintro e w1 ⟨rfl, hb1⟩; replace hB := hB.step hb1; clear hb1))
    go_ret
    exact ⟨rfl, hB.bel⟩
  have zu : (Url.str u).length ≤ 1000000 := Nat.le_trans (far_no h2).2 (by decide)
  cases h3 : Url.may b
  case false =>
    unfold uVal uCells
    go_enter Tryz.func4, Tryz.ntmps4
    go_upto_region 1 with fail
    generalize (w.alloc (.cells #[.string (str b.sch), .string (str b.host), .int .i64 b.port, .string (str b.path), .string (str b.query), .string (str b.frag), .bool b.hq, .bool b.hf] 23)).alloc (.cells #[.string (str u.sch), .string (str u.host), .int .i64 u.port, .string (str u.path), .string (str u.query), .string (str u.frag), .bool u.hq, .bool u.hf] 23) = w0 at hB ⊢
    go_wp2_with (first
      | ((with_reducible show wpList _ _ _ ({ dst := _, op := Op.load 23 (Operand.tmp 2), type := _, pos := _, after := _, guard := _ } :: _) _ _); refine wpList_load_Ug _ rfl (by rfl) (w.heap.size) b rfl hB.b_ ?_)
      | ((with_reducible show wpList _ _ _ ({ dst := _, op := Op.load 23 (Operand.tmp 3), type := _, pos := _, after := _, guard := _ } :: _) _ _); refine wpList_load_Ug _ rfl (by rfl) (w.heap.size + 1) u rfl hB.u_ ?_)
      | (go_at_call 6; refine (far_any _ _ (by assumption)).mono ?_; rintro e w1 ⟨rfl, hb1⟩; replace hB := hB.step hb1; clear hb1)
      | (go_at_call 8; refine (RMay5_any _ _ (by assumption) (by assumption)).mono ?_; rintro e w1 ⟨rfl, hb1⟩; replace hB := hB.step hb1; clear hb1)
      | (go_at_call 9; refine (alive5_any _ (hE.below hB.bel)).mono ?_; rintro e w1 ⟨rfl, hb1⟩; replace hB := hB.step hb1; clear hb1))
    go_ret
    exact ⟨rfl, hB.bel⟩
  cases h4 : Url.may u
  case false =>
    unfold uVal uCells
    go_enter Tryz.func4, Tryz.ntmps4
    go_upto_region 1 with fail
    generalize (w.alloc (.cells #[.string (str b.sch), .string (str b.host), .int .i64 b.port, .string (str b.path), .string (str b.query), .string (str b.frag), .bool b.hq, .bool b.hf] 23)).alloc (.cells #[.string (str u.sch), .string (str u.host), .int .i64 u.port, .string (str u.path), .string (str u.query), .string (str u.frag), .bool u.hq, .bool u.hf] 23) = w0 at hB ⊢
    go_wp2_with (first
      | ((with_reducible show wpList _ _ _ ({ dst := _, op := Op.load 23 (Operand.tmp 2), type := _, pos := _, after := _, guard := _ } :: _) _ _); refine wpList_load_Ug _ rfl (by rfl) (w.heap.size) b rfl hB.b_ ?_)
      | ((with_reducible show wpList _ _ _ ({ dst := _, op := Op.load 23 (Operand.tmp 3), type := _, pos := _, after := _, guard := _ } :: _) _ _); refine wpList_load_Ug _ rfl (by rfl) (w.heap.size + 1) u rfl hB.u_ ?_)
      | (go_at_call 6; refine (far_any _ _ (by assumption)).mono ?_; rintro e w1 ⟨rfl, hb1⟩; replace hB := hB.step hb1; clear hb1)
      | (go_at_call 8; refine (RMay5_any _ _ (by assumption) (by assumption)).mono ?_; rintro e w1 ⟨rfl, hb1⟩; replace hB := hB.step hb1; clear hb1)
      | (go_at_call 9; refine (alive5_any _ (hE.below hB.bel)).mono ?_; rintro e w1 ⟨rfl, hb1⟩; replace hB := hB.step hb1; clear hb1))
    go_ret
    exact ⟨rfl, hB.bel⟩
  have gb := Url.may_good h3
  have g := Url.may_good h4
  have hlen := Url.link_len b u
  have lc : ∀ W : World, Env W → Calls Tryz.prog 11 #[uVal b, uVal u] W fun e w' => e = .returned (.string (str (Url.link b u))) ∧ Below W.heap.size W w' := fun W h => Link_any b u W h fb fu (by omega) (by omega)
  have jc : ∀ W : World, Env W → Calls Tryz.prog 10 #[uVal b, .string (str (Url.link b u))] W fun e w' => e = .returned (.tuple #[uVal u, .int .i64 0]) ∧ Below W.heap.size W w' := fun W h => by
    have := JJoin_any b fb (by omega) _ (Url.link b u) W (Nat.le_refl _) h (by omega)
    rw [Url.join_link gb g] at this
    exact this
  have rstr : ∀ W : World, Calls Tryz.prog 12 #[uVal u] W fun e w' => e = .returned (.string (str (Url.str u))) ∧ Below W.heap.size W w' := fun W => RString_any u W fu
  have heq : ∀ W : World, (binOp .eql 23 (.agg (uCells u)) (.agg (uCells u))).run Tryz.prog W = .ok (.bool true) W := fun W => by
    have := eql_U u u W
    rw [Url.same_self] at this
    exact this
  have hs1 := str_size (Url.link b u)
  have hs2 := str_size (Url.str u)
  have hle : ((Url.link b u).length : Int) ≤ ((Url.str u).length : Int) := by omega
  clear hlen
  generalize Url.link b u = lk at *
  unfold uVal uCells
  go_enter Tryz.func4, Tryz.ntmps4
  go_upto_region 1 with fail
  generalize (w.alloc (.cells #[.string (str b.sch), .string (str b.host), .int .i64 b.port, .string (str b.path), .string (str b.query), .string (str b.frag), .bool b.hq, .bool b.hf] 23)).alloc (.cells #[.string (str u.sch), .string (str u.host), .int .i64 u.port, .string (str u.path), .string (str u.query), .string (str u.frag), .bool u.hq, .bool u.hf] 23) = w0 at hB ⊢
  go_wp2_with (first
    | ((with_reducible show wpList _ _ _ ({ dst := _, op := Op.load 23 (Operand.tmp 2), type := _, pos := _, after := _, guard := _ } :: _) _ _); refine wpList_load_Ug _ rfl (by rfl) (w.heap.size) b rfl hB.b_ ?_)
    | ((with_reducible show wpList _ _ _ ({ dst := _, op := Op.load 23 (Operand.tmp 3), type := _, pos := _, after := _, guard := _ } :: _) _ _); refine wpList_load_Ug _ rfl (by rfl) (w.heap.size + 1) u rfl hB.u_ ?_)
    | (go_at_call 6; refine (far_any _ _ (by assumption)).mono ?_; rintro e w1 ⟨rfl, hb1⟩; replace hB := hB.step hb1; clear hb1)
    | (go_at_call 8; refine (RMay5_any _ _ (by assumption) (by assumption)).mono ?_; rintro e w1 ⟨rfl, hb1⟩; replace hB := hB.step hb1; clear hb1)
    | (go_at_call 11; refine (lc _ (hE.below hB.bel)).mono ?_; rintro e w1 ⟨rfl, hb1⟩; replace hB := hB.step hb1; clear hb1)
    | (go_at_call 10; refine (jc _ (hE.below hB.bel)).mono ?_; rintro e w5 ⟨rfl, hb1⟩; replace hB := hB.step hb1; clear hb1)
    | ((with_reducible show wpList _ _ _ ({ dst := _, op := Op.store 23 (Operand.tmp 6) _, type := _, pos := _, after := _, guard := _ } :: _) _ _); refine wpList_store_U _ _ rfl rfl _ u Url.zero rfl rfl (heap_alloc_last _ _) ?_; have hVb6 := setRow_U (v := u) (u := Url.zero) (heap_alloc_last w5 (.cells #[.string (str Url.zero.sch), .string (str Url.zero.host), .int .i64 Url.zero.port, .string (str Url.zero.path), .string (str Url.zero.query), .string (str Url.zero.frag), .bool Url.zero.hq, .bool Url.zero.hf] 23)); have hs := below_setRow ((Below.refl _ w5).alloc (Nat.le_refl _) (.cells #[.string (str Url.zero.sch), .string (str Url.zero.host), .int .i64 Url.zero.port, .string (str Url.zero.path), .string (str Url.zero.query), .string (str Url.zero.frag), .bool Url.zero.hq, .bool Url.zero.hf] 23)) (Nat.le_refl _) (uCells u); replace hB := hB.step hs; generalize World.setRow (World.alloc w5 (.cells #[.string (str Url.zero.sch), .string (str Url.zero.host), .int .i64 Url.zero.port, .string (str Url.zero.path), .string (str Url.zero.query), .string (str Url.zero.frag), .bool Url.zero.hq, .bool Url.zero.hf] 23)) (World.heap w5).size (uCells u) = w6 at hVb6 hB ⊢; generalize (World.heap w5).size = b6 at hVb6 ⊢; clear hs)
    | ((with_reducible show wpList _ _ _ ({ dst := _, op := Op.load 23 (Operand.tmp 6), type := _, pos := _, after := _, guard := _ } :: _) _ _); refine wpList_load_Ug _ rfl (by rfl) (b6) u rfl hVb6 ?_)
    | ((with_reducible show wpList _ _ _ ({ dst := _, op := Op.binOp BinOp.eql 23 _ _ _, type := _, pos := _, after := _, guard := _ } :: _) _ _); unfold uVal)
    | (go_at_call 12; refine (rstr _).mono ?_; rintro e w1 ⟨rfl, hb1⟩; replace hB := hB.step hb1; clear hb1)
    | (go_at_call 9; refine (alive5_any _ (hE.below hB.bel)).mono ?_; rintro e w1 ⟨rfl, hb1⟩; replace hB := hB.step hb1; clear hb1))
  go_ret
  exact ⟨rfl, hB.bel⟩
end Go.Proofs.YtnmkhbelmdokmabGreatDoor.joinBack
