/- The walk of JoinMay: whatever URL and text come in, the law answers true. -/
import Derived.Test.YtnmkhbelmdokmabGreatDoorKJoin
import Derived.Deep.Cut
namespace Go.Proofs.YtnmkhbelmdokmabGreatDoor.joinMay
open Go.RowKit
structure B1 (w W : World) (u : Url.U) : Prop where
  at_ : UAt W w.heap.size u
  bel : Below w.heap.size w W
theorem B1.step {w W W' : World} {u : Url.U} (h : B1 w W u) (hb : Below W.heap.size W W') : B1 w W' u := ⟨h.at_.below hb, Go.Proofs.YtnmkhbelmdokmabGreatDoor.bel h.bel hb⟩
set_option maxHeartbeats 8000000 in
set_option maxRecDepth 100000 in
theorem walk_str (b : Url.U) (l : List UInt8) (w : World) (fb : Fits b) (hE : Env w) :
    Calls Tryz.prog 3 #[uVal b, .string (str l)] w fun e w' => e = .returned (.bool true) ∧ Below w.heap.size w w' := by
  have hzu := (zero_of_info zeroURL).1
  have hgd := guardU
  have hB : B1 w (w.alloc (.cells (uCells b) 23)) b := ⟨heap_alloc_last _ _, (Below.refl _ w).alloc (Nat.le_refl _) _⟩
  unfold uVal at hzu
  unfold uCells at hzu hB
  cases h1 : farU b
  case true =>
    unfold uVal uCells
    go_enter Tryz.func3, Tryz.ntmps3
    go_upto_region 1 with fail
    generalize w.alloc (.cells #[.string (str b.sch), .string (str b.host), .int .i64 b.port, .string (str b.path), .string (str b.query), .string (str b.frag), .bool b.hq, .bool b.hf] 23) = w0 at hB ⊢
    go_wp2_with (first
      | ((with_reducible show wpList _ _ _ ({ dst := _, op := Op.load 23 (Operand.tmp 2), type := _, pos := _, after := _, guard := _ } :: _) _ _); refine wpList_load_Ug _ rfl (by rfl) (w.heap.size) b rfl hB.at_ ?_)
      | (go_at_call 6; refine (far_any _ _ (by assumption)).mono ?_; rintro e w1 ⟨rfl, hb1⟩; replace hB := hB.step hb1; clear hb1)
      | (go_at_call 7; refine (long5_any _ _).mono ?_; rintro e w1 ⟨rfl, hw1⟩; rw [hw1]; clear hw1)
      | (go_at_call 8; refine (RMay5_any _ _ (by assumption) (by assumption)).mono ?_; rintro e w1 ⟨rfl, hb1⟩; replace hB := hB.step hb1; clear hb1)
      | (go_at_call 9; refine (alive5_any _ (hE.below hB.bel)).mono ?_; rintro e w1 ⟨rfl, hb1⟩; replace hB := hB.step hb1; clear hb1))
    go_ret
    exact ⟨rfl, hB.bel⟩
  have zb : (Url.str b).length ≤ 1000000 := Nat.le_trans (far_no h1).2 (by decide)
  cases h2 : longU l
  case true =>
    unfold uVal uCells
    go_enter Tryz.func3, Tryz.ntmps3
    go_upto_region 1 with fail
    generalize w.alloc (.cells #[.string (str b.sch), .string (str b.host), .int .i64 b.port, .string (str b.path), .string (str b.query), .string (str b.frag), .bool b.hq, .bool b.hf] 23) = w0 at hB ⊢
    go_wp2_with (first
      | ((with_reducible show wpList _ _ _ ({ dst := _, op := Op.load 23 (Operand.tmp 2), type := _, pos := _, after := _, guard := _ } :: _) _ _); refine wpList_load_Ug _ rfl (by rfl) (w.heap.size) b rfl hB.at_ ?_)
      | (go_at_call 6; refine (far_any _ _ (by assumption)).mono ?_; rintro e w1 ⟨rfl, hb1⟩; replace hB := hB.step hb1; clear hb1)
      | (go_at_call 7; refine (long5_any _ _).mono ?_; rintro e w1 ⟨rfl, hw1⟩; rw [hw1]; clear hw1)
      | (go_at_call 8; refine (RMay5_any _ _ (by assumption) (by assumption)).mono ?_; rintro e w1 ⟨rfl, hb1⟩; replace hB := hB.step hb1; clear hb1)
      | (go_at_call 9; refine (alive5_any _ (hE.below hB.bel)).mono ?_; rintro e w1 ⟨rfl, hb1⟩; replace hB := hB.step hb1; clear hb1))
    go_ret
    exact ⟨rfl, hB.bel⟩
  have hl : l.length ≤ 2200 := by have := of_decide_eq_false h2; omega
  cases h3 : Url.may b
  case false =>
    unfold uVal uCells
    go_enter Tryz.func3, Tryz.ntmps3
    go_upto_region 1 with fail
    generalize w.alloc (.cells #[.string (str b.sch), .string (str b.host), .int .i64 b.port, .string (str b.path), .string (str b.query), .string (str b.frag), .bool b.hq, .bool b.hf] 23) = w0 at hB ⊢
    go_wp2_with (first
      | ((with_reducible show wpList _ _ _ ({ dst := _, op := Op.load 23 (Operand.tmp 2), type := _, pos := _, after := _, guard := _ } :: _) _ _); refine wpList_load_Ug _ rfl (by rfl) (w.heap.size) b rfl hB.at_ ?_)
      | (go_at_call 6; refine (far_any _ _ (by assumption)).mono ?_; rintro e w1 ⟨rfl, hb1⟩; replace hB := hB.step hb1; clear hb1)
      | (go_at_call 7; refine (long5_any _ _).mono ?_; rintro e w1 ⟨rfl, hw1⟩; rw [hw1]; clear hw1)
      | (go_at_call 8; refine (RMay5_any _ _ (by assumption) (by assumption)).mono ?_; rintro e w1 ⟨rfl, hb1⟩; replace hB := hB.step hb1; clear hb1)
      | (go_at_call 9; refine (alive5_any _ (hE.below hB.bel)).mono ?_; rintro e w1 ⟨rfl, hb1⟩; replace hB := hB.step hb1; clear hb1))
    go_ret
    exact ⟨rfl, hB.bel⟩
  have g := Url.may_good h3
  have jc : ∀ W : World, Env W → Calls Tryz.prog 10 #[uVal b, .string (str l)] W fun e w' => e = .returned (.tuple #[uVal (Url.join b l).2, .int .i64 (Url.join b l).1]) ∧ Below W.heap.size W w' := fun W h => JJoin_any b fb (by omega) _ l W (Nat.le_refl _) h (by omega)
  have jc2 : ∀ W : World, Env W → Calls Tryz.prog 10 #[uVal (Url.bare b), .string (str l)] W fun e w' => e = .returned (.tuple #[uVal (Url.join b l).2, .int .i64 (Url.join b l).1]) ∧ Below W.heap.size W w' := fun W h => by
    have hg := Url.good_bare g
    have := JJoin_any (Url.bare b) (bare_fits fb) (by have := hg.len; omega) _ l W (Nat.le_refl _) h (by omega)
    rw [Url.join_bare b g _ l (Nat.le_refl _)] at this
    exact this
  rcases Url.join_either b g _ l (Nat.le_refl _) with ⟨he, hx⟩ | ⟨he, hx⟩
  · rw [hx] at jc jc2
    have hne : ((Url.join b l).1 != 0) = true := by rw [bne_iff_ne]; exact he
    have hnf : ((Url.join b l).1 == 0) = false := beq_eq_false_iff_ne.2 he
    clear he hx g
    generalize (Url.join b l).1 = pe at *
    have heq : ∀ W : World, (binOp .eql 23 (.agg (uCells Url.zero)) (.agg (uCells Url.zero))).run Tryz.prog W = .ok (.bool true) W := fun W => by
      have := eql_U Url.zero Url.zero W
      rw [Url.same_self] at this
      exact this
    have heqz : ∀ W : World, (binOp .eql 23 (.agg (uCells Url.zero)) (.agg #[.string (str Url.zero.sch), .string (str Url.zero.host), .int .i64 Url.zero.port, .string (str Url.zero.path), .string (str Url.zero.query), .string (str Url.zero.frag), .bool Url.zero.hq, .bool Url.zero.hf])).run Tryz.prog W = .ok (.bool true) W := heq
    unfold uVal uCells
    go_enter Tryz.func3, Tryz.ntmps3
    go_upto_region 1 with fail
    generalize w.alloc (.cells #[.string (str b.sch), .string (str b.host), .int .i64 b.port, .string (str b.path), .string (str b.query), .string (str b.frag), .bool b.hq, .bool b.hf] 23) = w0 at hB ⊢
    go_upto_region 4 with (first
      | ((with_reducible show wpList _ _ _ ({ dst := _, op := Op.load 23 (Operand.tmp 2), type := _, pos := _, after := _, guard := _ } :: _) _ _); refine wpList_load_Ug _ rfl (by rfl) (w.heap.size) b rfl hB.at_ ?_)
      | (go_at_call 6; refine (far_any _ _ (by assumption)).mono ?_; rintro e w1 ⟨rfl, hb1⟩; replace hB := hB.step hb1; clear hb1)
      | (go_at_call 7; refine (long5_any _ _).mono ?_; rintro e w1 ⟨rfl, hw1⟩; rw [hw1]; clear hw1)
      | (go_at_call 8; refine (RMay5_any _ _ (by assumption) (by assumption)).mono ?_; rintro e w1 ⟨rfl, hb1⟩; replace hB := hB.step hb1; clear hb1)
      | (go_at_call 10; refine (jc _ (hE.below hB.bel)).mono ?_; rintro e w5 ⟨rfl, hb1⟩; replace hB := hB.step hb1; clear hb1)
      | ((with_reducible show wpList _ _ _ ({ dst := _, op := Op.store 23 (Operand.tmp 5) _, type := _, pos := _, after := _, guard := _ } :: _) _ _); refine wpList_store_U _ _ rfl rfl _ Url.zero Url.zero rfl rfl (heap_alloc_last _ _) ?_; have hVb5 := setRow_U (v := Url.zero) (u := Url.zero) (heap_alloc_last w5 (.cells #[.string (str Url.zero.sch), .string (str Url.zero.host), .int .i64 Url.zero.port, .string (str Url.zero.path), .string (str Url.zero.query), .string (str Url.zero.frag), .bool Url.zero.hq, .bool Url.zero.hf] 23)); have hs := below_setRow ((Below.refl _ w5).alloc (Nat.le_refl _) (.cells #[.string (str Url.zero.sch), .string (str Url.zero.host), .int .i64 Url.zero.port, .string (str Url.zero.path), .string (str Url.zero.query), .string (str Url.zero.frag), .bool Url.zero.hq, .bool Url.zero.hf] 23)) (Nat.le_refl _) (uCells Url.zero); have hlb5 := hB.at_.lt; replace hB := hB.step hs; generalize World.setRow (World.alloc w5 (.cells #[.string (str Url.zero.sch), .string (str Url.zero.host), .int .i64 Url.zero.port, .string (str Url.zero.path), .string (str Url.zero.query), .string (str Url.zero.frag), .bool Url.zero.hq, .bool Url.zero.hf] 23)) (World.heap w5).size (uCells Url.zero) = w6 at hVb5 hB ⊢; generalize (World.heap w5).size = b5 at hVb5 hlb5 ⊢; clear hs))
    have f7 := hB.at_.frozen 7
    have f5 := (hB.at_.hf false).frozen 5
    have x7 := hB.at_.cell 7
    have x5 := (hB.at_.hf false).cell 5
    simp only [uCells] at x7 x5
    go_upto_region 5 with fail
    have hB2 : B1 w ((w6.setCell ⟨w.heap.size, 7, none⟩ (.bool false)).setCell ⟨w.heap.size, 5, none⟩ (.string ⟨#[]⟩)) (Url.bare b) := ⟨(hB.at_.hf false).frag [], (hB.bel.setCell (Nat.le_refl _) _).setCell (Nat.le_refl _) _⟩
    have hV5 : UAt ((w6.setCell ⟨w.heap.size, 7, none⟩ (.bool false)).setCell ⟨w.heap.size, 5, none⟩ (.string ⟨#[]⟩)) b5 Url.zero := UAt.other (UAt.other hVb5 (by omega) _) (by omega) _
    generalize (w6.setCell ⟨w.heap.size, 7, none⟩ (.bool false)).setCell ⟨w.heap.size, 5, none⟩ (.string ⟨#[]⟩) = w7 at hB2 hV5 ⊢
    clear hB hVb5 f7 f5 x7 x5
    rename B1 w w7 (Url.bare b) => hB
    generalize Url.bare b = bb at *
    go_upto_region 6 with (first
      | ((with_reducible show wpList _ _ _ ({ dst := _, op := Op.load 23 (Operand.tmp 2), type := _, pos := _, after := _, guard := _ } :: _) _ _); refine wpList_load_Ug _ rfl (by rfl) (w.heap.size) bb rfl hB.at_ ?_)
      | (go_at_call 10; refine (jc2 _ (hE.below hB.bel)).mono ?_; rintro e w8 ⟨rfl, hb1⟩; replace hV5 := hV5.below hb1; replace hB := hB.step hb1; clear hb1)
      | ((with_reducible show wpList _ _ _ ({ dst := _, op := Op.store 23 (Operand.tmp 7) _, type := _, pos := _, after := _, guard := _ } :: _) _ _); refine wpList_store_U _ _ rfl rfl _ Url.zero Url.zero rfl rfl (heap_alloc_last _ _) ?_; have hVb7 := setRow_U (v := Url.zero) (u := Url.zero) (heap_alloc_last w8 (.cells #[.string (str Url.zero.sch), .string (str Url.zero.host), .int .i64 Url.zero.port, .string (str Url.zero.path), .string (str Url.zero.query), .string (str Url.zero.frag), .bool Url.zero.hq, .bool Url.zero.hf] 23)); have hs := below_setRow ((Below.refl _ w8).alloc (Nat.le_refl _) (.cells #[.string (str Url.zero.sch), .string (str Url.zero.host), .int .i64 Url.zero.port, .string (str Url.zero.path), .string (str Url.zero.query), .string (str Url.zero.frag), .bool Url.zero.hq, .bool Url.zero.hf] 23)) (Nat.le_refl _) (uCells Url.zero); have hlb7 := hB.at_.lt; replace hV5 := hV5.below hs; replace hB := hB.step hs; generalize World.setRow (World.alloc w8 (.cells #[.string (str Url.zero.sch), .string (str Url.zero.host), .int .i64 Url.zero.port, .string (str Url.zero.path), .string (str Url.zero.query), .string (str Url.zero.frag), .bool Url.zero.hq, .bool Url.zero.hf] 23)) (World.heap w8).size (uCells Url.zero) = w9 at hVb7 hV5 hB ⊢; generalize (World.heap w8).size = b7 at hVb7 hlb7 ⊢; clear hs))
    go_wp2_with (first
      | ((with_reducible show wpList _ _ _ ({ dst := _, op := Op.load 23 (Operand.tmp 5), type := _, pos := _, after := _, guard := _ } :: _) _ _); refine wpList_load_Ug _ rfl (by rfl) (b5) Url.zero rfl hV5 ?_)
      | ((with_reducible show wpList _ _ _ ({ dst := _, op := Op.load 23 (Operand.tmp 7), type := _, pos := _, after := _, guard := _ } :: _) _ _); refine wpList_load_Ug _ rfl (by rfl) (b7) Url.zero rfl hVb7 ?_)
      | ((with_reducible show wpList _ _ _ ({ dst := _, op := Op.binOp BinOp.eql 23 _ _ _, type := _, pos := _, after := _, guard := _ } :: _) _ _); unfold uVal)
      | (go_at_call 8; refine (RMay5_any _ _ (by assumption) (by assumption)).mono ?_; rintro e w1 ⟨rfl, hb1⟩; replace hV5 := hV5.below hb1; replace hB := hB.step hb1; clear hb1)
      | (go_at_call 9; refine (alive5_any _ (hE.below hB.bel)).mono ?_; rintro e w1 ⟨rfl, hb1⟩; replace hB := hB.step hb1; clear hb1))
    go_ret
    exact ⟨rfl, hB.bel⟩
  · rw [he] at jc jc2
    have fx := (good_fits hx).1
    have zx : (Url.str (Url.join b l).2).length ≤ 1000000 := Nat.le_trans hx.len (by decide)
    have mx := Url.good_may hx
    clear he hx g
    generalize (Url.join b l).2 = x at *
    have heq : ∀ W : World, (binOp .eql 23 (.agg (uCells x)) (.agg (uCells x))).run Tryz.prog W = .ok (.bool true) W := fun W => by
      have := eql_U x x W
      rw [Url.same_self] at this
      exact this
    unfold uVal uCells
    go_enter Tryz.func3, Tryz.ntmps3
    go_upto_region 1 with fail
    generalize w.alloc (.cells #[.string (str b.sch), .string (str b.host), .int .i64 b.port, .string (str b.path), .string (str b.query), .string (str b.frag), .bool b.hq, .bool b.hf] 23) = w0 at hB ⊢
    go_upto_region 4 with (first
      | ((with_reducible show wpList _ _ _ ({ dst := _, op := Op.load 23 (Operand.tmp 2), type := _, pos := _, after := _, guard := _ } :: _) _ _); refine wpList_load_Ug _ rfl (by rfl) (w.heap.size) b rfl hB.at_ ?_)
      | (go_at_call 6; refine (far_any _ _ (by assumption)).mono ?_; rintro e w1 ⟨rfl, hb1⟩; replace hB := hB.step hb1; clear hb1)
      | (go_at_call 7; refine (long5_any _ _).mono ?_; rintro e w1 ⟨rfl, hw1⟩; rw [hw1]; clear hw1)
      | (go_at_call 8; refine (RMay5_any _ _ (by assumption) (by assumption)).mono ?_; rintro e w1 ⟨rfl, hb1⟩; replace hB := hB.step hb1; clear hb1)
      | (go_at_call 10; refine (jc _ (hE.below hB.bel)).mono ?_; rintro e w5 ⟨rfl, hb1⟩; replace hB := hB.step hb1; clear hb1)
      | ((with_reducible show wpList _ _ _ ({ dst := _, op := Op.store 23 (Operand.tmp 5) _, type := _, pos := _, after := _, guard := _ } :: _) _ _); refine wpList_store_U _ _ rfl rfl _ x Url.zero rfl rfl (heap_alloc_last _ _) ?_; have hVb5 := setRow_U (v := x) (u := Url.zero) (heap_alloc_last w5 (.cells #[.string (str Url.zero.sch), .string (str Url.zero.host), .int .i64 Url.zero.port, .string (str Url.zero.path), .string (str Url.zero.query), .string (str Url.zero.frag), .bool Url.zero.hq, .bool Url.zero.hf] 23)); have hs := below_setRow ((Below.refl _ w5).alloc (Nat.le_refl _) (.cells #[.string (str Url.zero.sch), .string (str Url.zero.host), .int .i64 Url.zero.port, .string (str Url.zero.path), .string (str Url.zero.query), .string (str Url.zero.frag), .bool Url.zero.hq, .bool Url.zero.hf] 23)) (Nat.le_refl _) (uCells x); have hlb5 := hB.at_.lt; replace hB := hB.step hs; generalize World.setRow (World.alloc w5 (.cells #[.string (str Url.zero.sch), .string (str Url.zero.host), .int .i64 Url.zero.port, .string (str Url.zero.path), .string (str Url.zero.query), .string (str Url.zero.frag), .bool Url.zero.hq, .bool Url.zero.hf] 23)) (World.heap w5).size (uCells x) = w6 at hVb5 hB ⊢; generalize (World.heap w5).size = b5 at hVb5 hlb5 ⊢; clear hs))
    have f7 := hB.at_.frozen 7
    have f5 := (hB.at_.hf false).frozen 5
    have x7 := hB.at_.cell 7
    have x5 := (hB.at_.hf false).cell 5
    simp only [uCells] at x7 x5
    go_upto_region 5 with fail
    have hB2 : B1 w ((w6.setCell ⟨w.heap.size, 7, none⟩ (.bool false)).setCell ⟨w.heap.size, 5, none⟩ (.string ⟨#[]⟩)) (Url.bare b) := ⟨(hB.at_.hf false).frag [], (hB.bel.setCell (Nat.le_refl _) _).setCell (Nat.le_refl _) _⟩
    have hV5 : UAt ((w6.setCell ⟨w.heap.size, 7, none⟩ (.bool false)).setCell ⟨w.heap.size, 5, none⟩ (.string ⟨#[]⟩)) b5 x := UAt.other (UAt.other hVb5 (by omega) _) (by omega) _
    generalize (w6.setCell ⟨w.heap.size, 7, none⟩ (.bool false)).setCell ⟨w.heap.size, 5, none⟩ (.string ⟨#[]⟩) = w7 at hB2 hV5 ⊢
    clear hB hVb5 f7 f5 x7 x5
    rename B1 w w7 (Url.bare b) => hB
    generalize Url.bare b = bb at *
    go_upto_region 6 with (first
      | ((with_reducible show wpList _ _ _ ({ dst := _, op := Op.load 23 (Operand.tmp 2), type := _, pos := _, after := _, guard := _ } :: _) _ _); refine wpList_load_Ug _ rfl (by rfl) (w.heap.size) bb rfl hB.at_ ?_)
      | (go_at_call 10; refine (jc2 _ (hE.below hB.bel)).mono ?_; rintro e w8 ⟨rfl, hb1⟩; replace hV5 := hV5.below hb1; replace hB := hB.step hb1; clear hb1)
      | ((with_reducible show wpList _ _ _ ({ dst := _, op := Op.store 23 (Operand.tmp 7) _, type := _, pos := _, after := _, guard := _ } :: _) _ _); refine wpList_store_U _ _ rfl rfl _ x Url.zero rfl rfl (heap_alloc_last _ _) ?_; have hVb7 := setRow_U (v := x) (u := Url.zero) (heap_alloc_last w8 (.cells #[.string (str Url.zero.sch), .string (str Url.zero.host), .int .i64 Url.zero.port, .string (str Url.zero.path), .string (str Url.zero.query), .string (str Url.zero.frag), .bool Url.zero.hq, .bool Url.zero.hf] 23)); have hs := below_setRow ((Below.refl _ w8).alloc (Nat.le_refl _) (.cells #[.string (str Url.zero.sch), .string (str Url.zero.host), .int .i64 Url.zero.port, .string (str Url.zero.path), .string (str Url.zero.query), .string (str Url.zero.frag), .bool Url.zero.hq, .bool Url.zero.hf] 23)) (Nat.le_refl _) (uCells x); have hlb7 := hB.at_.lt; replace hV5 := hV5.below hs; replace hB := hB.step hs; generalize World.setRow (World.alloc w8 (.cells #[.string (str Url.zero.sch), .string (str Url.zero.host), .int .i64 Url.zero.port, .string (str Url.zero.path), .string (str Url.zero.query), .string (str Url.zero.frag), .bool Url.zero.hq, .bool Url.zero.hf] 23)) (World.heap w8).size (uCells x) = w9 at hVb7 hV5 hB ⊢; generalize (World.heap w8).size = b7 at hVb7 hlb7 ⊢; clear hs))
    go_wp2_with (first
      | ((with_reducible show wpList _ _ _ ({ dst := _, op := Op.load 23 (Operand.tmp 5), type := _, pos := _, after := _, guard := _ } :: _) _ _); refine wpList_load_Ug _ rfl (by rfl) (b5) x rfl hV5 ?_)
      | ((with_reducible show wpList _ _ _ ({ dst := _, op := Op.load 23 (Operand.tmp 7), type := _, pos := _, after := _, guard := _ } :: _) _ _); refine wpList_load_Ug _ rfl (by rfl) (b7) x rfl hVb7 ?_)
      | ((with_reducible show wpList _ _ _ ({ dst := _, op := Op.binOp BinOp.eql 23 _ _ _, type := _, pos := _, after := _, guard := _ } :: _) _ _); unfold uVal)
      | (go_at_call 8; refine (RMay5_any _ _ (by assumption) (by assumption)).mono ?_; rintro e w1 ⟨rfl, hb1⟩; replace hV5 := hV5.below hb1; replace hB := hB.step hb1; clear hb1)
      | (go_at_call 9; refine (alive5_any _ (hE.below hB.bel)).mono ?_; rintro e w1 ⟨rfl, hb1⟩; replace hB := hB.step hb1; clear hb1))
    go_ret
    exact ⟨rfl, hB.bel⟩
theorem walk (b : Url.U) (a1 : ByteArray) (w : World) (fb : Fits b) (_h1 : a1.size ≤ maxLen) (hE : Env w) :
    Calls Tryz.prog 3 #[uVal b, .string a1] w fun e w' => e = .returned (.bool true) ∧ Below w.heap.size w w' := by
  have := walk_str b a1.data.toList w fb hE
  rw [str_self] at this
  exact this
end Go.Proofs.YtnmkhbelmdokmabGreatDoor.joinMay
