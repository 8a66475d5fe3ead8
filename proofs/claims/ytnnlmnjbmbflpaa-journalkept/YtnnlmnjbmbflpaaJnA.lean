/- Frames of records, and what bytes have: the contracts of number, readNumber, isRecord. -/
import Derived.Test.YtnnlmnjbmbflpaaDkB
import Derived.Test.YtnnlmnjbmbflpaaDkR2
import Derived.Test.YtnnlmnjbmbflpaaJnS
set_option linter.unusedVariables false
set_option linter.unusedSimpArgs false
namespace Go.Proofs.Ytnnlmnjbmbflpaa
open Go.RowKit
/-- A slice of one's own grew. -/
structure Gr (w : World) (v v' : Value) (w' : World) : Prop where
  own : Own (fun k => v.ownBlock = some k) w w'
  blk : ∀ k, v'.ownBlock = some k → v.ownBlock = some k ∨ w.heap.size ≤ k
theorem Gr.refl (w : World) (v : Value) : Gr w v v w := ⟨Own.refl _ _, fun k h => .inl h⟩
theorem Gr.trans {a b c : World} {u v x : Value} (h : Gr a u v b) (h2 : Gr b v x c) : Gr a u x c := ⟨h.own.trans h2.own (fun k hk => h.blk k hk), fun k hk => by
  rcases h2.blk k hk with h3 | h3
  · exact h.blk k h3
  · exact .inr (Nat.le_trans h.own.size h3)⟩
theorem Gr.of {w w' : World} {v v' : Value} (h : w.grownBy w' v.ownBlock) (hb : v'.ownBlock = v.ownBlock ∨ v'.ownBlock = some w.heap.size) : Gr w v v' w' :=
  ⟨⟨h.os, h.tape, h.output, h.size, fun k hk hn => h.block k hk (fun e => hn e.symm)⟩, fun k hk => by
    rcases hb with e | e
    · exact .inl (e ▸ hk)
    · rw [e] at hk
      cases hk
      exact .inr (Nat.le_refl _)⟩
theorem Gr.ahead {w W w' : World} {v v' : Value} (h : Gr W v v' w') (hB : Below w.heap.size w W) : Gr w v v' w' :=
  ⟨(Own.of hB).trans h.own (fun k hk => .inl hk), fun k hk => by
    rcases h.blk k hk with h3 | h3
    · exact .inl h3
    · exact .inr (Nat.le_trans hB.size h3)⟩
theorem Gr.behind {w W w' : World} {v v' : Value} (h : Gr w v v' W) (hB : Below W.heap.size W w') : Gr w v v' w' :=
  ⟨h.own.trans (Own.of hB (T := fun _ => False)) (fun k hk => hk.elim), h.blk⟩
theorem OwnsBytes.low9 {w w' : World} {B : Nat} {v : Value} {l : List UInt8} (h : OwnsBytes w B v l) (hB : Below w.heap.size w w') : OwnsBytes w' B v l := h.keep (fun k _ hk => hB.block k hk)
theorem four_cells (n : Nat) (hn : n < 4294967296) : (#[.int .u8 ((n : Int) / 16777216), .int .u8 ((n : Int) / 65536 % 256), .int .u8 ((n : Int) / 256 % 256), .int .u8 ((n : Int) % 256)] : Array Value).toList = cellsB (Jn.four n) := by
  simp [cellsB, Jn.four]
  omega
set_option maxHeartbeats 2000000 in
set_option maxRecDepth 100000 in
theorem number_any {w : World} {v : Value} {l : List UInt8} (h : OwnsBytes w 0 v l) (n : Nat) (hn : n < 4294967296) (hl : l.length ≤ 100000000) :
    Calls Try.prog 86 #[v, .int .u32 (n : Int)] w fun e w' => ∃ v', e = .returned v' ∧ OwnsBytes w' 0 v' (l ++ Jn.four n) ∧ Gr w v v' w' := by
  have hy := RB.new w (Jn.four n) _ (four_cells n hn) 5 (0, 0) 4 rfl
  have hB := alloc1 w (.cells #[.int .u8 ((n : Int) / 16777216), .int .u8 ((n : Int) / 65536 % 256), .int .u8 ((n : Int) / 256 % 256), .int .u8 ((n : Int) % 256)] 5)
  have ho := h.low9 hB
  obtain ⟨a, c, rfl⟩ := h.form
  go_enter Try.func86, Try.ntmps86
  go_wp2_with (refine wpList_append_RB rfl (.tmp 5) (.tmp 17) rfl _ _ rfl ho _ _ rfl hy (by rw [Jn.four_length]; omega) ?_; intro v' w' h1 h2 h3)
  go_ret
  exact ⟨_, rfl, h1, (Gr.of h2 h3).ahead hB⟩
theorem or_num (n : Nat) (x : UInt8) (hn : n < 16777216) : bits .or .u32 ((n : Int) * 256) (x.toNat : Int) = ((n * 256 + x.toNat : Nat) : Int) := by
  have hx := x.toNat_lt
  rw [show ((n : Int) * 256) = ((n * 256 : Nat) : Int) by omega, u32_or_nat _ _ (by omega) (by omega)]
  have := Nat.shiftLeft_add_eq_or_of_lt (i := 8) (b := x.toNat) (by omega) n
  rw [Nat.shiftLeft_eq] at this
  rw [← this]
theorem num_take (l : List UInt8) (j : Nat) (h : j < l.length) : Jn.num (l.take (j + 1)) = Jn.num (l.take j) * 256 + l[j].toNat := by
  unfold Jn.num
  rw [List.take_succ_eq_append_getElem h, List.foldl_append]
  rfl
theorem num_small (l : List UInt8) (h : l.length ≤ 3) : Jn.num l < 16777216 := by
  rcases l with _ | ⟨a, _ | ⟨b, _ | ⟨c, _ | ⟨d, l⟩⟩⟩⟩ <;> simp at h
  · decide
  all_goals
    have ha := a.toNat_lt
    try have hb := b.toNat_lt
    try have hc := c.toNat_lt
    simp only [Jn.num, List.foldl_cons, List.foldl_nil]
    omega
set_option maxHeartbeats 2000000 in
set_option maxRecDepth 100000 in
theorem read_any {w : World} {v : Value} {l : List UInt8} (hv : RB w v l) (h4 : l.length = 4) :
    Calls Try.prog 88 #[v] w fun e w' => e = .returned (.int .u32 (Jn.num l : Int)) ∧ w' = w := by
  obtain ⟨a, cp, rfl⟩ := RB.form hv
  go_enter Try.func88, Try.ntmps88
  go_wp2
  go_loopw [3, 8] (fun y i wr => ∃ j : Nat, j ≤ l.length ∧ i = .int .i64 j ∧ y = .int .u32 (Jn.num (l.take j) : Int) ∧ w = wr) (fun _ i _ => l.length - (intOf i).toNat)
  case atStart => exact ⟨0, Nat.zero_le _, rfl, rfl, rfl⟩
  case round =>
    obtain ⟨j, hj, rfl, rfl, rfl⟩ := hrel
    by_cases hlt : j < l.length
    · obtain ⟨_, hc, b, o, rfl, hcell⟩ := RB.at hv hlt
      have HC : Hid (Jn.num (l.take (j + 1)) = Jn.num (l.take j) * 256 + l[j].toNat) := num_take l j hlt
      have hs := num_small (l.take j) (by simp; omega)
      have ho := or_num (Jn.num (l.take j)) l[j] hs
      have hx := l[j].toNat_lt
      generalize l[j] = x at *
      generalize Jn.num (l.take j) = n at *
      go_wp2
      exact ⟨⟨j + 1, by omega, by go_num, congrArg (Value.int .u32) (by rw [HC.out]; omega), trivial⟩, by simp [intOf]; omega⟩
    · have hjl : l.take j = l := List.take_of_length_le (by omega)
      rw [hjl]
      go_wp2
      go_ret
      exact ⟨rfl, rfl⟩
set_option maxHeartbeats 2000000 in
set_option maxRecDepth 100000 in
theorem isRecord_any (n : Int) (w : World) :
    Calls Try.prog 63 #[.int .i64 n] w fun e w' => e = .returned (.bool (decide (1 ≤ n) && decide (n ≤ 16384))) ∧ w' = w := by
  by_cases h1 : 1 ≤ n
  · have H : Hid (decide (1 ≤ n) = true) := decide_eq_true h1
    go_enter Try.func63, Try.ntmps63
    go_wp2
    go_ret
    refine ⟨?_, rfl⟩
    rw [H.out]
    rfl
  · have H : Hid (decide (1 ≤ n) = false) := decide_eq_false h1
    go_enter Try.func63, Try.ntmps63
    go_wp2
    go_ret
    refine ⟨?_, rfl⟩
    rw [H.out]
    rfl
end Go.Proofs.Ytnnlmnjbmbflpaa
