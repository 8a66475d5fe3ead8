/- The walk of JoinLinks: whatever URL and text come in, the law answers true. -/
import Derived.Test.YtnmkhbelmdokmaaGreatDoorKJoinR
namespace Go.Proofs.YtnmkhbelmdokmaaGreatDoor.joinLinks
open Go.RowKit
structure B1 (w W : World) (u : Url.U) : Prop where
  at_ : UAt W w.heap.size u
  bel : Below w.heap.size w W
theorem B1.step {w W W' : World} {u : Url.U} (h : B1 w W u) (hb : Below W.heap.size W W') : B1 w W' u := ⟨h.at_.below hb, Go.Proofs.YtnmkhbelmdokmaaGreatDoor.bel h.bel hb⟩
set_option maxHeartbeats 8000000 in
set_option maxRecDepth 100000 in
theorem walk_str (b : Url.U) (l : List UInt8) (w : World) (fb : Fits b) (hE : Env w) :
    Calls Tryz.prog 5 #[uVal b, .string (str l)] w fun e w' => e = .returned (.bool true) ∧ Below w.heap.size w w' := by
  have hzu := (zero_of_info zeroURL).1
  have hgd := guardU
  have hB : B1 w (w.alloc (.cells (uCells b) 25)) b := ⟨heap_alloc_last _ _, (Below.refl _ w).alloc (Nat.le_refl _) _⟩
  unfold uVal at hzu
  unfold uCells at hzu hB
  cases h1 : farU b
  case true =>
    unfold uVal uCells
    go_enter Tryz.func5, Tryz.ntmps5
    go_upto_region 1 with fail
    generalize w.alloc (.cells #[.string (str b.sch), .string (str b.host), .int .i64 b.port, .string (str b.path), .string (str b.query), .string (str b.frag), .bool b.hq, .bool b.hf] 25) = w0 at hB ⊢
    go_wp2_with (first
      | ((with_reducible show wpList _ _ _ ({ dst := _, op := Op.load 25 (Operand.tmp 2), type := _, pos := _, after := _, guard := _ } :: _) _ _); refine wpList_load_Ug _ rfl (by rfl) (w.heap.size) b rfl hB.at_ ?_)
      | (go_at_call 18; refine (far_any _ _ (by assumption)).mono ?_; rintro e w1 ⟨rfl, hb1⟩; replace hB := hB.step hb1; clear hb1)
      | (go_at_call 19; refine (long5_any _ _).mono ?_; rintro e w1 ⟨rfl, hw1⟩; rw [hw1]; clear hw1)
      | (go_at_call 20; refine (alive5_any _ (hE.below hB.bel)).mono ?_; rintro e w1 ⟨rfl, hb1⟩; replace hB := hB.step hb1; clear hb1))
    go_ret
    exact ⟨rfl, hB.bel⟩
  have zb : (Url.str b).length ≤ 1000000 := Nat.le_trans (far_no h1).2 (by decide)
  cases h2 : longU l
  case true =>
    unfold uVal uCells
    go_enter Tryz.func5, Tryz.ntmps5
    go_upto_region 1 with fail
    generalize w.alloc (.cells #[.string (str b.sch), .string (str b.host), .int .i64 b.port, .string (str b.path), .string (str b.query), .string (str b.frag), .bool b.hq, .bool b.hf] 25) = w0 at hB ⊢
    go_wp2_with (first
      | ((with_reducible show wpList _ _ _ ({ dst := _, op := Op.load 25 (Operand.tmp 2), type := _, pos := _, after := _, guard := _ } :: _) _ _); refine wpList_load_Ug _ rfl (by rfl) (w.heap.size) b rfl hB.at_ ?_)
      | (go_at_call 18; refine (far_any _ _ (by assumption)).mono ?_; rintro e w1 ⟨rfl, hb1⟩; replace hB := hB.step hb1; clear hb1)
      | (go_at_call 19; refine (long5_any _ _).mono ?_; rintro e w1 ⟨rfl, hw1⟩; rw [hw1]; clear hw1)
      | (go_at_call 20; refine (alive5_any _ (hE.below hB.bel)).mono ?_; rintro e w1 ⟨rfl, hb1⟩; replace hB := hB.step hb1; clear hb1))
    go_ret
    exact ⟨rfl, hB.bel⟩
  have hl : l.length ≤ 2200 := by have := of_decide_eq_false h2; omega
  have jc : ∀ W : World, Env W → Calls Tryz.prog 21 #[uVal b, .string (str l)] W fun e w' => e = .returned (.tuple #[uVal (Url.join b l).2, .int .i64 (Url.join b l).1]) ∧ Below W.heap.size W w' := fun W h => JJoin_any b fb (by omega) _ l W (Nat.le_refl _) h (by omega)
  have rc : ∀ W : World, Calls Tryz.prog 22 #[uVal b, .string (str l)] W fun e w' => e = .returned (.tuple #[uVal (Url.join b l).2, .int .i64 (Url.join b l).1]) ∧ Below W.heap.size W w' := fun W => RJoin5_any b fb zb _ l W (Nat.le_refl _) (by omega)
  generalize (Url.join b l).2 = x at *
  generalize (Url.join b l).1 = pe at *
  have heq : ∀ W : World, (binOp .eql 25 (.agg (uCells x)) (.agg (uCells x))).run Tryz.prog W = .ok (.bool true) W := fun W => by
    have := eql_U x x W
    rw [Url.same_self] at this
    exact this
  unfold uVal uCells
  go_enter Tryz.func5, Tryz.ntmps5
  go_upto_region 1 with fail
  generalize w.alloc (.cells #[.string (str b.sch), .string (str b.host), .int .i64 b.port, .string (str b.path), .string (str b.query), .string (str b.frag), .bool b.hq, .bool b.hf] 25) = w0 at hB ⊢
  go_wp2_with (first
    | ((with_reducible show wpList _ _ _ ({ dst := _, op := Op.load 25 (Operand.tmp 2), type := _, pos := _, after := _, guard := _ } :: _) _ _); refine wpList_load_Ug _ rfl (by rfl) (w.heap.size) b rfl hB.at_ ?_)
    | (go_at_call 18; refine (far_any _ _ (by assumption)).mono ?_; rintro e w1 ⟨rfl, hb1⟩; replace hB := hB.step hb1; clear hb1)
    | (go_at_call 19; refine (long5_any _ _).mono ?_; rintro e w1 ⟨rfl, hw1⟩; rw [hw1]; clear hw1)
    | (go_at_call 21; refine (jc _ (hE.below hB.bel)).mono ?_; rintro e w5 ⟨rfl, hb1⟩; replace hB := hB.step hb1; clear hb1)
    | ((with_reducible show wpList _ _ _ ({ dst := _, op := Op.store 25 (Operand.tmp 5) _, type := _, pos := _, after := _, guard := _ } :: _) _ _); refine wpList_store_U _ _ rfl rfl _ x Url.zero rfl rfl (heap_alloc_last _ _) ?_; have hVb5 := setRow_U (v := x) (u := Url.zero) (heap_alloc_last w5 (.cells #[.string (str Url.zero.sch), .string (str Url.zero.host), .int .i64 Url.zero.port, .string (str Url.zero.path), .string (str Url.zero.query), .string (str Url.zero.frag), .bool Url.zero.hq, .bool Url.zero.hf] 25)); have hs := below_setRow ((Below.refl _ w5).alloc (Nat.le_refl _) (.cells #[.string (str Url.zero.sch), .string (str Url.zero.host), .int .i64 Url.zero.port, .string (str Url.zero.path), .string (str Url.zero.query), .string (str Url.zero.frag), .bool Url.zero.hq, .bool Url.zero.hf] 25)) (Nat.le_refl _) (uCells x); replace hB := hB.step hs; generalize World.setRow (World.alloc w5 (.cells #[.string (str Url.zero.sch), .string (str Url.zero.host), .int .i64 Url.zero.port, .string (str Url.zero.path), .string (str Url.zero.query), .string (str Url.zero.frag), .bool Url.zero.hq, .bool Url.zero.hf] 25)) (World.heap w5).size (uCells x) = w6 at hVb5 hB ⊢; generalize (World.heap w5).size = b5 at hVb5 ⊢; clear hs)
    | (go_at_call 22; refine (rc _).mono ?_; rintro e w8 ⟨rfl, hb1⟩; replace hVb5 := hVb5.below hb1; replace hB := hB.step hb1; clear hb1)
    | ((with_reducible show wpList _ _ _ ({ dst := _, op := Op.store 25 (Operand.tmp 7) _, type := _, pos := _, after := _, guard := _ } :: _) _ _); refine wpList_store_U _ _ rfl rfl _ x Url.zero rfl rfl (heap_alloc_last _ _) ?_; have hVb7 := setRow_U (v := x) (u := Url.zero) (heap_alloc_last w8 (.cells #[.string (str Url.zero.sch), .string (str Url.zero.host), .int .i64 Url.zero.port, .string (str Url.zero.path), .string (str Url.zero.query), .string (str Url.zero.frag), .bool Url.zero.hq, .bool Url.zero.hf] 25)); have hs := below_setRow ((Below.refl _ w8).alloc (Nat.le_refl _) (.cells #[.string (str Url.zero.sch), .string (str Url.zero.host), .int .i64 Url.zero.port, .string (str Url.zero.path), .string (str Url.zero.query), .string (str Url.zero.frag), .bool Url.zero.hq, .bool Url.zero.hf] 25)) (Nat.le_refl _) (uCells x); replace hVb5 := hVb5.below hs; replace hB := hB.step hs; generalize World.setRow (World.alloc w8 (.cells #[.string (str Url.zero.sch), .string (str Url.zero.host), .int .i64 Url.zero.port, .string (str Url.zero.path), .string (str Url.zero.query), .string (str Url.zero.frag), .bool Url.zero.hq, .bool Url.zero.hf] 25)) (World.heap w8).size (uCells x) = w9 at hVb7 hVb5 hB ⊢; generalize (World.heap w8).size = b7 at hVb7 ⊢; clear hs)
    | ((with_reducible show wpList _ _ _ ({ dst := _, op := Op.load 25 (Operand.tmp 5), type := _, pos := _, after := _, guard := _ } :: _) _ _); refine wpList_load_Ug _ rfl (by rfl) (b5) x rfl hVb5 ?_)
    | ((with_reducible show wpList _ _ _ ({ dst := _, op := Op.load 25 (Operand.tmp 7), type := _, pos := _, after := _, guard := _ } :: _) _ _); refine wpList_load_Ug _ rfl (by rfl) (b7) x rfl hVb7 ?_)
    | ((with_reducible show wpList _ _ _ ({ dst := _, op := Op.binOp BinOp.eql 25 _ _ _, type := _, pos := _, after := _, guard := _ } :: _) _ _); unfold uVal)
    | (go_at_call 20; refine (alive5_any _ (hE.below hB.bel)).mono ?_; rintro e w1 ⟨rfl, hb1⟩; replace hB := hB.step hb1; clear hb1))
  go_ret
  exact ⟨rfl, hB.bel⟩
theorem walk (b : Url.U) (a1 : ByteArray) (w : World) (fb : Fits b) (_h1 : a1.size ≤ maxLen) (hE : Env w) :
    Calls Tryz.prog 5 #[uVal b, .string a1] w fun e w' => e = .returned (.bool true) ∧ Below w.heap.size w w' := by
  have := walk_str b a1.data.toList w fb hE
  rw [str_self] at this
  exact this
end Go.Proofs.YtnmkhbelmdokmaaGreatDoor.joinLinks
