/- The contracts of the document's Crc and Mark, and of the program's Crc of parts. -/
import Derived.Test.YtfjgmejobldjoaaSumB
set_option linter.unusedVariables false
set_option linter.unusedSimpArgs false
namespace Go.Proofs.Ytfjgmejobldjoaa
open Go.RowKit
theorem low1 (a : BitVec 32) : bits .and .u32 (a.toNat : Int) 1 = ((a.toNat % 2 : Nat) : Int) := by
  rw [show (1 : Int) = ((1 : Nat) : Int) from rfl, u32_and_nat _ _ a.isLt (by decide), nat_mask1]
theorem lsb (a : BitVec 32) : a.getLsbD 0 = decide (a.toNat % 2 = 1) := by
  rw [BitVec.getLsbD]
  simp [Nat.testBit]
  have : a.toNat % 2 = 0 ∨ a.toNat % 2 = 1 := by omega
  rcases this with h | h <;> simp [h]
theorem bit_test (s : BitVec 32) (x : UInt8) (i : Nat) : bits .and .u32 (bits .xor .u32 (s.toNat : Int) ((x.toNat : Int) / 2 ^ i % 4294967296)) 1 = (((s ^^^ (Sm.by32 x >>> i)).toNat % 2 : Nat) : Int) := by
  rw [← low1, ← xor32, shr32, by32_nat]
  have : ((x.toNat : Int) / 2 ^ i % 4294967296) = ((x.toNat / 2 ^ i : Nat) : Int) := by
    have hx := x.toNat_lt
    have : x.toNat / 2 ^ i ≤ x.toNat := Nat.div_le_self _ _
    rw [show ((x.toNat : Int) / 2 ^ i) = ((x.toNat / 2 ^ i : Nat) : Int) by simp]
    generalize x.toNat / 2 ^ i = q at *
    omega
  rw [this]
theorem P_nat : Sm.P.toNat = 3988292384 := by decide
theorem half (s : BitVec 32) : (s.toNat : Int) / (2 : Int) = (((s >>> 1).toNat : Nat) : Int) := by rw [shr32]; rfl
theorem bit_yes (s : BitVec 32) (x : UInt8) (i : Nat) (h : (bits .and .u32 (bits .xor .u32 (s.toNat : Int) ((x.toNat : Int) / 2 ^ i % 4294967296)) 1 == 1) = true) : bits .xor .u32 ((s.toNat : Int) / 2) 3988292384 = ((Sm.g s (Sm.by32 x >>> i)).toNat : Int) := by
  rw [bit_test] at h
  have h1 : (s ^^^ (Sm.by32 x >>> i)).toNat % 2 = 1 := by
    have := of_decide_eq_true h
    omega
  unfold Sm.g
  rw [lsb, decide_eq_true h1, if_pos rfl, ← xor32, P_nat, half]
  rfl
theorem bit_no (s : BitVec 32) (x : UInt8) (i : Nat) (h : (bits .and .u32 (bits .xor .u32 (s.toNat : Int) ((x.toNat : Int) / 2 ^ i % 4294967296)) 1 == 1) = false) : (s.toNat : Int) / 2 = ((Sm.g s (Sm.by32 x >>> i)).toNat : Int) := by
  rw [bit_test] at h
  have h1 : ¬ (s ^^^ (Sm.by32 x >>> i)).toNat % 2 = 1 := by
    have := of_decide_eq_false h
    omega
  unfold Sm.g
  rw [lsb, decide_eq_false h1, if_neg (by simp), BitVec.xor_zero, half]
theorem not32 (c : BitVec 32) : bits .xor .u32 IntKind.u32.max (c.toNat : Int) = ((c ^^^ F).toNat : Int) := by
  rw [show IntKind.u32.max = ((F.toNat : Nat) : Int) from rfl, xor32, BitVec.xor_comm]
set_option maxHeartbeats 2000000 in
set_option maxRecDepth 100000 in
theorem RMark_any (l : List UInt8) (v : Value) (w : World) (hv : RB w v l) (hl : l.length ≤ 1000000000) :
    Calls Try.prog 13 #[v] w fun e w' => e = .returned (.int .u64 ((Sm.markL G l).toNat : Int)) ∧ w' = w := by
  obtain ⟨a, cp, rfl⟩ := RB.form hv
  go_enter Try.func13, Try.ntmps13
  go_wp2
  go_loopw [3, 4] (fun y i wr => ∃ j : Nat, j ≤ l.length ∧ i = .int .i64 j ∧ y = .int .u64 ((Sm.markL G (l.take j)).toNat : Int) ∧ w = wr) (fun _ i _ => l.length - (intOf i).toNat)
  case atStart => exact ⟨0, Nat.zero_le _, rfl, rfl, rfl⟩
  case round =>
    obtain ⟨j, hj, rfl, rfl, rfl⟩ := hrel
    by_cases hlt : j < l.length
    · obtain ⟨_, hc, b, o, rfl, hcell⟩ := RB.at hv hlt
      have HM : Hid (Sm.markL G (l.take (j + 1)) = Sm.mk (Sm.markL G (l.take j)) l[j]) := by
        show Sm.markL G (l.take (j + 1)) = _
        rw [List.take_succ_eq_append_getElem hlt, Sm.markL_app]; rfl
      have C2 := step_mk (Sm.markL G (l.take j)) l[j]
      have hx := l[j].toNat_lt
      generalize l[j] = x at *
      generalize Sm.mk (Sm.markL G (l.take j)) x = m3 at *
      generalize Sm.markL G (l.take j) = m2 at *
      go_wp2
      exact ⟨⟨j + 1, by omega, by go_num, by rw [HM.out], trivial⟩, by simp [intOf]; omega⟩
    · have hjl : l.take j = l := List.take_of_length_le (by omega)
      rw [hjl]
      go_wp2
      go_ret
      exact ⟨rfl, rfl⟩
set_option maxHeartbeats 2000000 in
set_option maxRecDepth 100000 in
theorem RCrc_any (l : List UInt8) (v : Value) (w : World) (hv : RB w v l) (hl : l.length ≤ 1000000000) :
    Calls Try.prog 11 #[v] w fun e w' => e = .returned (.int .u32 ((Sm.crcL F l ^^^ F).toNat : Int)) ∧ w' = w := by
  obtain ⟨a, cp, rfl⟩ := RB.form hv
  obtain ⟨X, HX⟩ : ∃ X, Hid (X = Sm.crcL F l ^^^ F) := ⟨_, rfl⟩
  rw [← HX.out]
  go_enter Try.func11, Try.ntmps11
  go_wp2
  go_loopw [3, 4] (fun y i wr => ∃ j : Nat, j ≤ l.length ∧ i = .int .i64 j ∧ y = .int .u32 ((Sm.crcL F (l.take j)).toNat : Int) ∧ w = wr) (fun _ i _ => l.length - (intOf i).toNat)
  case atStart => exact ⟨0, Nat.zero_le _, rfl, rfl, rfl⟩
  case round =>
    obtain ⟨j, hj, rfl, rfl, rfl⟩ := hrel
    by_cases hlt : j < l.length
    · obtain ⟨_, hc, b, o, rfl, hcell⟩ := RB.at hv hlt
      have HC : Hid (Sm.crcL F (l.take (j + 1)) = Sm.on (Sm.crcL F (l.take j)) l[j]) := by
        show Sm.crcL F (l.take (j + 1)) = _
        rw [List.take_succ_eq_append_getElem hlt, Sm.crcL_app]; rfl
      have hx := l[j].toNat_lt
      have HG : Hid (Sm.gs (Sm.crcL F (l.take j)) (Sm.by32 l[j]) 8 = Sm.on (Sm.crcL F (l.take j)) l[j]) := Sm.gs_on _ _
      generalize l[j] = x at *
      generalize Sm.crcL F (l.take j) = m2 at *
      go_wp2
      go_loopw [3, 5] (fun y k wr => ∃ i : Nat, i ≤ 8 ∧ k = .int .i64 i ∧ y = .int .u32 ((Sm.gs m2 (Sm.by32 x) i).toNat : Int) ∧ w = wr) (fun _ i _ => 8 - (intOf i).toNat)
      case atStart => exact ⟨0, Nat.zero_le _, rfl, rfl, rfl⟩
      case round =>
        obtain ⟨i, hi, rfl, rfl, rfl⟩ := hrel
        by_cases hi8 : i < 8
        · go_wp2
          · rename_i hq
            exact ⟨⟨i + 1, by omega, by go_num, congrArg _ (bit_yes _ _ _ hq), trivial⟩, by simp [intOf]; omega⟩
          · rename_i hq
            exact ⟨⟨i + 1, by omega, by go_num, congrArg _ (bit_no _ _ _ hq), trivial⟩, by simp [intOf]; omega⟩
        · obtain rfl : i = 8 := by omega
          rw [HG.out]
          go_wp2
          exact ⟨⟨j + 1, by omega, by go_num, by rw [HC.out], trivial⟩, by simp [intOf]; omega⟩
    · have hjl : l.take j = l := List.take_of_length_le (by omega)
      rw [hjl]
      have hn := not32 (Sm.crcL F l)
      rw [← HX.out] at hn
      generalize Sm.crcL F l = y at *
      go_wp2
      go_ret
      exact ⟨by first | exact ret_int hn | rfl, rfl⟩
/-- A slice reads as these rows of bytes. -/
def RBs (w : World) (v : Value) (ls : List (List UInt8)) : Prop :=
  (∃ a c, v = .slice a 0 c ∧ ls = []) ∨ ∃ b o c, v = .slice (some ⟨b, o, none⟩) ls.length c ∧ ls.length ≤ c ∧ ∀ (j : Nat) l, ls[j]? = some l → ∃ x, w.cell? ⟨b, o + j, none⟩ = some x ∧ RB w x l
theorem RBs.below {w w' : World} {v : Value} {ls : List (List UInt8)} (h : RBs w v ls) (hb : Below w.heap.size w w') : RBs w' v ls := by
  rcases h with h | ⟨b, o, c, rfl, hc, hr⟩
  · exact .inl h
  · refine .inr ⟨b, o, c, rfl, hc, fun j l hj => ?_⟩
    obtain ⟨x, h1, h2⟩ := hr j l hj
    exact ⟨x, (hb.cell (p := ⟨b, o + j, none⟩) (cell_lt h1)).trans h1, ReadsCells.below h2 hb⟩
theorem RBs.form {w : World} {v : Value} {ls : List (List UInt8)} (h : RBs w v ls) : ∃ a c, v = .slice a ls.length c := by
  rcases h with ⟨a, c, rfl, rfl⟩ | ⟨b, o, c, rfl, _, _⟩
  · exact ⟨a, c, rfl⟩
  · exact ⟨_, c, rfl⟩
theorem RBs.at {w : World} {a : Option Addr} {n c : Nat} {ls : List (List UInt8)} (h : RBs w (.slice a n c) ls) {j : Nat} {l : List UInt8} (hj : ls[j]? = some l) : n = ls.length ∧ n ≤ c ∧ ∃ b o, a = some ⟨b, o, none⟩ ∧ ∃ x, w.cell? ⟨b, o + j, none⟩ = some x ∧ RB w x l := by
  rcases h with ⟨a', c', he, rfl⟩ | ⟨b, o, c', he, hc, hr⟩
  · simp at hj
  · cases he
    exact ⟨rfl, hc, b, o, rfl, hr j l hj⟩
set_option maxHeartbeats 2000000 in
set_option maxRecDepth 100000 in
theorem Crc_any (ls : List (List UInt8)) (v : Value) (w : World) (hv : RBs w v ls) (hl : ls.length ≤ 1000000000) (hz : ∀ l ∈ ls, l.length ≤ 1000000000) :
    Calls Try.prog 16 #[v] w fun e w' => e = .returned (.int .u32 ((Sm.crcL F ls.flatten ^^^ F).toNat : Int)) ∧ Below w.heap.size w w' := by
  obtain ⟨a, cp, rfl⟩ := hv.form
  obtain ⟨X, HX⟩ : ∃ X, Hid (X = Sm.crcL F ls.flatten ^^^ F) := ⟨_, rfl⟩
  rw [← HX.out]
  go_enter Try.func16, Try.ntmps16
  go_wp2
  go_loopw [3, 10] (fun y i wr => ∃ j : Nat, j ≤ ls.length ∧ i = .int .i64 j ∧ y = .int .u32 ((Sm.crcL F (ls.take j).flatten).toNat : Int) ∧ Below w.heap.size w wr) (fun _ i _ => ls.length - (intOf i).toNat)
  case atStart => exact ⟨0, Nat.zero_le _, rfl, rfl, Below.refl _ _⟩
  case round =>
    obtain ⟨j, hj, rfl, rfl, hB⟩ := hrel
    by_cases hlt : j < ls.length
    · obtain ⟨_, hc, b, o, rfl, xv, hcell, hx⟩ := (hv.below hB).at (List.getElem?_eq_getElem hlt)
      have HC : Hid (Sm.crcL F (ls.take (j + 1)).flatten = Sm.crcL (Sm.crcL F (ls.take j).flatten) ls[j]) := by
        show Sm.crcL F (ls.take (j + 1)).flatten = _
        rw [List.take_succ_eq_append_getElem hlt, List.flatten_append, Sm.crcL_app]
        simp
      have hl2 := hz _ (List.getElem_mem hlt)
      generalize ls[j] = l at *
      generalize Sm.crcL F (ls.take j).flatten = c2 at *
      obtain ⟨a2, cp2, rfl⟩ := RB.form hx
      go_wp2
      go_loopw [3, 16] (fun y k wr2 => ∃ i : Nat, i ≤ l.length ∧ k = .int .i64 i ∧ y = .int .u32 ((Sm.crcL c2 (l.take i)).toNat : Int) ∧ Below wr.heap.size wr wr2) (fun _ i _ => l.length - (intOf i).toNat)
      case atStart => exact ⟨0, Nat.zero_le _, rfl, rfl, Below.refl _ _⟩
      case round =>
        obtain ⟨i, hi, rfl, rfl, hB2⟩ := hrel
        by_cases hi2 : i < l.length
        · obtain ⟨_, hc2, b2, o2, rfl, hcell2⟩ := RB.at (ReadsCells.below hx hB2) hi2
          have HC2 : Hid (Sm.crcL c2 (l.take (i + 1)) = Sm.on (Sm.crcL c2 (l.take i)) l[i]) := by
            show Sm.crcL c2 (l.take (i + 1)) = _
            rw [List.take_succ_eq_append_getElem hi2, Sm.crcL_app]; rfl
          have C1 := crcOn_any (Sm.crcL c2 (l.take i)) l[i]
          generalize l[i] = x at *
          generalize Sm.crcL c2 (l.take i) = c3 at *
          go_wp2_with (go_at_call 19; refine (C1 _).mono ?_; rintro e w2 ⟨rfl, hB3⟩)
          exact ⟨⟨i + 1, by omega, by go_num, by rw [HC2.out], bel hB2 hB3⟩, by simp [intOf]; omega⟩
        · have hjl : l.take i = l := List.take_of_length_le (by omega)
          rw [hjl]
          go_wp2
          exact ⟨⟨j + 1, by omega, by go_num, by rw [HC.out], bel hB hB2⟩, by simp [intOf]; omega⟩
    · have hjl : ls.take j = ls := List.take_of_length_le (by omega)
      rw [hjl]
      have hn := xF (Sm.crcL F ls.flatten)
      rw [← HX.out] at hn
      generalize Sm.crcL F ls.flatten = y at *
      go_wp2
      go_ret
      exact ⟨by first | exact ret_int hn | rfl, hB⟩
end Go.Proofs.Ytfjgmejobldjoaa
