/- The contracts of long, alive, the program's Mark of texts, the document's Marks; rows of bytes that are appended. -/
import Derived.Test.YtfjgmejobldjoaaSumD
import Derived.Laws.AppendOwnNone
import Derived.Laws.AppendOwn
import Derived.Lib.AppendStr
import Derived.Lib.SlBytesConst
set_option linter.unusedVariables false
set_option linter.unusedSimpArgs false
namespace Go.Proofs.Ytfjgmejobldjoaa
open Go.RowKit
theorem cellsB_app (l m : List UInt8) : cellsB (l ++ m) = cellsB l ++ cellsB m := by unfold cellsB; rw [List.map_append]
/-- Bytes that are read, appended to bytes of one's own. -/
theorem wpList_append_RB {w : World} {ops : Array Oper} {rest : List Oper} {o : Oper} {a : Act} {Q : Exit → Act → World → Prop} (hgd : o.guard = none) (s x : Operand)
    (ho : o.op = .call { callee := .builtin .append, args := #[s, x], argTypes := #[22, 22] }) (B : Nat) (v : Value) (l : List UInt8) (hs : a.eval s = v) (hown : OwnsBytes w B v l) (y : Value) (m : List UInt8) (hx : a.eval x = y) (hy : RB w y m)
    (hlen : l.length + m.length ≤ 1000000000) (hB : B ≤ w.heap.size) (h : ∀ v' w', OwnsBytes w' B v' (l ++ m) → w.grownBy w' v.ownBlock → wpList Try.prog ops Q rest (a.put o.dst v') w') : wpList Try.prog ops Q (o :: rest) a w := by
  obtain ⟨i0, hi, hz0, hz1, hz2⟩ := info_parts infoByte
  have hfin : ∀ v' w', w'.ownsRow B 5 1 v' (l.length + m.length) (cellsB l ++ cellsB m) → OwnsBytes w' B v' (l ++ m) := by
    intro v' w' h
    unfold OwnsBytes
    rw [List.length_append, cellsB_app]
    exact h
  rcases hy with ⟨ad, c, rfl, he, h0⟩ | ⟨b, f, c, rfl, hc, hr⟩
  · have hm : m = [] := List.eq_nil_of_length_eq_zero (by rw [← cellsB_length, he]; rfl)
    subst hm
    cases ad with
    | none =>
      obtain rfl := h0 rfl
      refine wpList_append_own_none hgd s x 22 ho B 5 i0 1 Try.underlying22 hi v _ _ hs hown hx ?_
      have := h v w (by rw [List.append_nil]; exact hown) (World.grownBy.refl _ _)
      exact this
    | some ad =>
      refine wpList_append_own _ hgd s x 22 ho B 5 i0 (.int .u8 0) 1 1 Try.underlying22 hi hz0 hz1 hz2 rfl (by decide) v _ _ hs hown ad 0 c [] hx rfl (fun j u hj => by simp at hj) (fun x hx => by simp at hx) (by simp at hlen; unfold maxLen; omega) (by simp at hlen; omega) hB ?_
      intro v' w' h1 h2 _
      exact h v' w' (hfin v' w' h1) h2
  · rw [cellsB_length] at hx
    refine wpList_append_own _ hgd s x 22 ho B 5 i0 (.int .u8 0) 1 1 Try.underlying22 hi hz0 hz1 hz2 rfl (by decide) v _ _ hs hown ⟨b, f, none⟩ m.length c (cellsB m) hx (by rw [cellsB_length, Nat.mul_one]) (fun j u hj => by rw [add_addr]; exact hr j u hj) (one_cell m) (by unfold maxLen; omega) (by omega) hB ?_
    intro v' w' h1 h2 _
    exact h v' w' (hfin v' w' h1) h2
set_option maxHeartbeats 2000000 in
set_option maxRecDepth 100000 in
theorem long_any (l : List UInt8) (v : Value) (w : World) (hv : RB w v l) (hl : l.length ≤ maxLen) :
    Calls Try.prog 6 #[v] w fun e w' => e = .returned (.bool (decide (3000 < l.length))) ∧ w' = w := by
  obtain ⟨a, cp, rfl⟩ := RB.form hv
  unfold maxLen at hl
  go_enter Try.func6, Try.ntmps6
  go_wp2
  go_ret
  refine ⟨?_, rfl⟩
  show Ending.returned (.bool _) = _
  congr 2
  simp
  omega
/-- A row that was just laid reads as its bytes. -/
theorem RB.new (w : World) (l : List UInt8) (C : Array Value) (hC : C.toList = cellsB l) (e : TypeId) (fr : Nat × Nat) (n : Nat) (hn : n = l.length) : RB (w.alloc (.cells C e fr)) (.slice (some ⟨w.heap.size, 0, none⟩) n n) l := by
  subst hn
  refine .inr ⟨w.heap.size, 0, l.length, by rw [cellsB_length], by rw [cellsB_length]; exact Nat.le_refl _, fun j x hj => ?_⟩
  rw [Lib.cell_of_heap (heap_new w _), Nat.zero_add, ← Array.getElem?_toList, hC]
  exact hj
/-- A row of one row of bytes. -/
theorem RBs.one (w : World) (x : Value) (l : List UInt8) (h : RB w x l) (e : TypeId) : RBs (w.alloc (.cells #[x] e)) (.slice (some ⟨w.heap.size, 0, none⟩) 1 1) [l] := by
  refine .inr ⟨w.heap.size, 0, 1, rfl, Nat.le_refl _, fun j y hj => ?_⟩
  cases j with
  | zero =>
    simp at hj
    subst hj
    exact ⟨x, by rw [Lib.cell_of_heap (heap_new w _)]; rfl, ReadsCells.below h ((Below.refl _ w).alloc (Nat.le_refl _) _)⟩
  | succ j => simp at hj
theorem crc9 : Sm.crcL F [[49, 50, 51, 52, 53, 54, 55, 56, 57]].flatten ^^^ F = 3421780262#32 := by decide +kernel
theorem mark1 : (Sm.markL (0#64 ^^^ G) [97] ^^^ G) ^^^ G = 12638187200555641996#64 := by decide +kernel
theorem hex4 : Sm.hexA (digs 4) 255 [] = [48, 48, 102, 102] := by decide +kernel
theorem SAt.c0 {w : World} {b : Nat} {x0 x1 : Value} (h : SAt w b x0 x1) : w.cell? ⟨b, 0, none⟩ = some x0 := h.cell 0
theorem SAt.c1 {w : World} {b : Nat} {x0 x1 : Value} (h : SAt w b x0 x1) : w.cell? ⟨b, 1, none⟩ = some x1 := h.cell 1
theorem again32 (l : List UInt8) : addS 0#32 0#64 l = sv (Sm.crcL F l ^^^ F) (Sm.markL G l ^^^ G) := by
  unfold addS
  rw [BitVec.zero_xor, BitVec.zero_xor]
theorem back64 (m : BitVec 64) : (m ^^^ G) ^^^ G = m := by rw [BitVec.xor_assoc, BitVec.xor_self, BitVec.xor_zero]
theorem back32 (m : BitVec 32) : (m ^^^ F) ^^^ F = m := by rw [BitVec.xor_assoc, BitVec.xor_self, BitVec.xor_zero]
theorem size_alloc (w : World) (o : Obj) : (w.alloc o).heap.size = w.heap.size + 1 := by simp
theorem crc_nine (w : World) : Calls Try.prog 16 #[.slice (some ⟨w.heap.size + 1, 0, none⟩) 1 1] ((w.alloc (.cells #[.int .u8 49, .int .u8 50, .int .u8 51, .int .u8 52, .int .u8 53, .int .u8 54, .int .u8 55, .int .u8 56, .int .u8 57] 5 (9, 10))).alloc (.cells #[.slice (some ⟨w.heap.size, 0, none⟩) 9 9] 22)) fun e w' => e = .returned (.int .u32 3421780262) ∧ Below w.heap.size w w' := by
  have h0 := RB.new w [49, 50, 51, 52, 53, 54, 55, 56, 57] #[.int .u8 49, .int .u8 50, .int .u8 51, .int .u8 52, .int .u8 53, .int .u8 54, .int .u8 55, .int .u8 56, .int .u8 57] rfl 5 (9, 10) 9 rfl
  have h1 := RBs.one _ _ _ h0 22
  rw [size_alloc] at h1
  have hc := Crc_any _ _ _ h1 (by decide) (by decide)
  rw [crc9] at hc
  refine hc.mono ?_
  rintro e w' ⟨rfl, hB⟩
  exact ⟨rfl, bel (((Below.refl _ w).alloc (Nat.le_refl _) _).alloc (by simp) _) hB⟩
theorem add_one (w : World) : Calls Try.prog 9 #[sv 0#32 0#64, .slice (some ⟨w.heap.size, 0, none⟩) 1 1] (w.alloc (.cells #[.int .u8 97] 5)) fun e w' => e = .returned (addS 0#32 0#64 [97]) ∧ Below w.heap.size w w' := by
  have h0 := RB.new w [97] #[.int .u8 97] rfl 5 (0, 0) 1 rfl
  refine (Add_any 0#32 0#64 _ _ _ h0 (by decide)).mono ?_
  rintro e w' ⟨rfl, hB⟩
  exact ⟨rfl, bel ((Below.refl _ w).alloc (Nat.le_refl _) _) hB⟩
theorem mark_one (w : World) : Calls Try.prog 12 #[addS 0#32 0#64 [97]] w fun e w' => e = .returned (.int .u64 12638187200555641996) ∧ Below w.heap.size w w' := by
  have h := SMark_any (Sm.crcL (0#32 ^^^ F) [97] ^^^ F) (Sm.markL (0#64 ^^^ G) [97] ^^^ G) w
  rw [mark1] at h
  refine h.mono ?_
  rintro e w' ⟨rfl, hB⟩
  exact ⟨rfl, hB⟩
theorem hex_four (w : World) : Calls Try.prog 14 #[.int .u64 255, .int .i64 4] w fun e w' => e = .returned (.string ⟨#[48, 48, 102, 102]⟩) ∧ Below w.heap.size w w' := by
  have h := Hex_any 255 4 w (by decide) (by decide)
  rw [hex4] at h
  exact h
set_option maxHeartbeats 2000000 in
set_option maxRecDepth 100000 in
theorem alive8_any (w : World) :
    Calls Try.prog 7 #[] w fun e w' => e = .returned (.bool true) ∧ Below w.heap.size w w' := by
  have kc := fun (w : World) (C : Array Value) (n c : Nat) => Lib.run_convert_bytes_const (P := Try.prog) w 22 5 C n c Try.underlying22 Try.underlying5
  have m1 := mark_one
  have a1 := add_one
  generalize addS 0#32 0#64 [97] = y at *
  go_enter Try.func7, Try.ntmps7
  go_wp2_with (first
    | (go_at_call 16; refine (crc_nine w).mono ?_; rintro e w2 ⟨rfl, hB2⟩)
    | (go_at_call 8; refine (New_any w2).mono ?_; rintro e w3 ⟨rfl, hB3⟩)
    | (go_at_call 9; refine (a1 w3).mono ?_; rintro e w4 ⟨rfl, hB4⟩)
    | (go_at_call 12; refine (m1 w4).mono ?_; rintro e w5 ⟨rfl, hB5⟩)
    | (go_at_call 14; refine (hex_four w5).mono ?_; rintro e w6 ⟨rfl, hB6⟩))
  go_ret
  exact ⟨rfl, bel (bel (bel (bel hB2 hB3) hB4) hB5) hB6⟩
end Go.Proofs.Ytfjgmejobldjoaa
