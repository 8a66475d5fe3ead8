/- Sums, in a seat that has disks, too: the contracts of crcOn, of Crc of parts, and of the document's Crc. -/
import Derived.Test.YtcjbceidgaieaaaKDkR
import Derived.Test.YtcjbceidgaieaaaKJnMath
import Derived.Laws.BitsAllLaws
set_option linter.unusedVariables false
set_option linter.unusedSimpArgs false
namespace Go.Proofs.Ytcjbceidgaieaaa
open Go.RowKit
theorem xor32 (a b : BitVec 32) : bits .xor .u32 (a.toNat : Int) (b.toNat : Int) = (((a ^^^ b).toNat : Nat) : Int) := by
  rw [u32_xor_nat _ _ a.isLt b.isLt, BitVec.toNat_xor]
theorem low15 (a : BitVec 32) : bits .and .u32 (a.toNat : Int) 15 = ((a.toNat % 16 : Nat) : Int) := by
  rw [show (15 : Int) = ((15 : Nat) : Int) from rfl, u32_and_nat _ _ a.isLt (by decide), nat_mask4]
theorem shr32 (a : BitVec 32) (k : Nat) : (a >>> k).toNat = a.toNat / 2 ^ k := by rw [BitVec.toNat_ushiftRight, Nat.shiftRight_eq_div_pow]
theorem by32_nat (c : UInt8) : (Sm.by32 c).toNat = c.toNat := by
  unfold Sm.by32
  rw [BitVec.toNat_ofNat, Nat.mod_eq_of_lt (by have := c.toNat_lt; omega)]
theorem low_self (n : Nat) (h : n < 16) : bits .and .u32 (n : Int) 15 = (n : Int) := by
  rw [show (15 : Int) = ((15 : Nat) : Int) from rfl, u32_and_nat _ _ (by omega) (by decide), nat_mask4, Nat.mod_eq_of_lt h]
set_option maxHeartbeats 2000000 in
set_option maxRecDepth 100000 in
theorem fourBits_any (x : Int) (n : Nat) (w : World) (hx : x = n) (hn : n < 16) :
    Calls Try.prog 90 #[.int .u32 x] w fun e w' => e = .returned (.int .u32 ((Sm.tab.getD n 0 : Nat) : Int)) ∧ Below w.heap.size w w' := by
  subst hx
  have hb := low_self n hn
  go_enter Try.func90, Try.ntmps90
  go_wp2
  go_ret
  refine ⟨?_, ?_⟩
  · clear hb
    rcases (by omega : n = 0 ∨ n = 1 ∨ n = 2 ∨ n = 3 ∨ n = 4 ∨ n = 5 ∨ n = 6 ∨ n = 7 ∨ n = 8 ∨ n = 9 ∨ n = 10 ∨ n = 11 ∨ n = 12 ∨ n = 13 ∨ n = 14 ∨ n = 15) with rfl | rfl | rfl | rfl | rfl | rfl | rfl | rfl | rfl | rfl | rfl | rfl | rfl | rfl | rfl | rfl <;> rfl
  · exact (Below.refl _ w).alloc (Nat.le_refl _) _
theorem byx32 (m : BitVec 32) (c : UInt8) : bits .xor .u32 (m.toNat : Int) (c.toNat : Int) = ((m ^^^ Sm.by32 c).toNat : Int) := by
  rw [← by32_nat c, xor32]
theorem low_tab (u : BitVec 32) : u.toNat % 16 < 16 := Nat.mod_lt _ (by decide)
theorem tab_lt (n : Nat) (h : n < 16) : Sm.tab.getD n 0 < 4294967296 := by
  have : ∀ i : Fin 16, Sm.tab.getD i.val 0 < 4294967296 := by decide
  exact this ⟨n, h⟩
theorem step_four (u : BitVec 32) : bits .xor .u32 ((u.toNat : Int) / 16) ((Sm.tab.getD (u.toNat % 16) 0 : Nat) : Int) = ((Sm.f4 u).toNat : Int) := by
  rw [← Sm.four, ← xor32, shr32]
  have : (BitVec.ofNat 32 (Sm.tab.getD (u.toNat % 16) 0)).toNat = Sm.tab.getD (u.toNat % 16) 0 := by
    rw [BitVec.toNat_ofNat]
    exact Nat.mod_eq_of_lt (tab_lt _ (low_tab u))
  rw [this]
  rfl
set_option maxHeartbeats 2000000 in
set_option maxRecDepth 100000 in
theorem crcOn_any (s : BitVec 32) (c : UInt8) (w : World) :
    Calls Try.prog 89 #[.int .u32 (s.toNat : Int), .int .u8 (c.toNat : Int)] w fun e w' => e = .returned (.int .u32 ((Sm.on s c).toNat : Int)) ∧ Below w.heap.size w w' := by
  have hc := c.toNat_lt
  have h1 := byx32 s c
  have h4 := step_four (s ^^^ Sm.by32 c)
  have k1 := low15 (s ^^^ Sm.by32 c)
  have k2 := low15 (Sm.f4 (s ^^^ Sm.by32 c))
  have m1 := step_four (Sm.f4 (s ^^^ Sm.by32 c))
  have l1 := low_tab (s ^^^ Sm.by32 c)
  have l2 := low_tab (Sm.f4 (s ^^^ Sm.by32 c))
  have HF : Hid (Sm.on s c = Sm.f4 (Sm.f4 (s ^^^ Sm.by32 c))) := rfl
  generalize s ^^^ Sm.by32 c = u at *
  generalize Sm.f4 u = v at *
  generalize Sm.f4 v = z at *
  have C1 := fun W => fourBits_any ((u.toNat : Int) % 16) (u.toNat % 16) W (by omega) l1
  have C2 := fun W => fourBits_any ((v.toNat : Int) % 16) (v.toNat % 16) W (by omega) l2
  generalize Sm.tab.getD (u.toNat % 16) 0 = q1 at *
  generalize Sm.tab.getD (v.toNat % 16) 0 = q2 at *
  go_enter Try.func89, Try.ntmps89
  go_wp2_with (first
    | (go_at_call 90; refine (C1 _).mono ?_; rintro e w2 ⟨rfl, hB⟩)
    | (go_at_call 90; refine (C2 _).mono ?_; rintro e w3 ⟨rfl, hB2⟩))
  go_ret
  rw [HF.out]
  exact ⟨rfl, bel hB hB2⟩
theorem xF (c : BitVec 32) : bits .xor .u32 (c.toNat : Int) 4294967295 = ((c ^^^ Jn.F).toNat : Int) := by
  rw [show (4294967295 : Int) = ((Jn.F.toNat : Nat) : Int) from rfl, xor32]
theorem low1 (a : BitVec 32) : bits .and .u32 (a.toNat : Int) 1 = ((a.toNat % 2 : Nat) : Int) := by
  rw [show (1 : Int) = ((1 : Nat) : Int) from rfl, u32_and_nat _ _ a.isLt (by decide), nat_mask1]
theorem lsb (a : BitVec 32) : a.getLsbD 0 = decide (a.toNat % 2 = 1) := by
  rw [BitVec.getLsbD]
  simp [Nat.testBit]
  have : a.toNat % 2 = 0 ∨ a.toNat % 2 = 1 := by omega
  rcases this with h | h <;> simp [h]
theorem bit_test (s : BitVec 32) (x : UInt8) (i : Nat) : bits .and .u32 (bits .xor .u32 (s.toNat : Int) ((x.toNat : Int) / 2 ^ i % 4294967296)) 1 = (((s ^^^ (Sm.by32 x >>> i)).toNat % 2 : Nat) : Int) := by
  rw [← low1, ← xor32, shr32, by32_nat]
  have : ((x.toNat : Int) / 2 ^ i % 4294967296) = ((x.toNat / 2 ^ i : Nat) : Int) := by
    have hx := x.toNat_lt
    have : x.toNat / 2 ^ i ≤ x.toNat := Nat.div_le_self _ _
    rw [show ((x.toNat : Int) / 2 ^ i) = ((x.toNat / 2 ^ i : Nat) : Int) by simp]
    generalize x.toNat / 2 ^ i = q at *
    omega
  rw [this]
theorem P_nat : Sm.P.toNat = 3988292384 := by decide
theorem half (s : BitVec 32) : (s.toNat : Int) / (2 : Int) = (((s >>> 1).toNat : Nat) : Int) := by rw [shr32]; rfl
theorem bit_yes (s : BitVec 32) (x : UInt8) (i : Nat) (h : (bits .and .u32 (bits .xor .u32 (s.toNat : Int) ((x.toNat : Int) / 2 ^ i % 4294967296)) 1 == 1) = true) : bits .xor .u32 ((s.toNat : Int) / 2) 3988292384 = ((Sm.g s (Sm.by32 x >>> i)).toNat : Int) := by
  rw [bit_test] at h
  have h1 : (s ^^^ (Sm.by32 x >>> i)).toNat % 2 = 1 := by
    have := of_decide_eq_true h
    omega
  unfold Sm.g
  rw [lsb, decide_eq_true h1, if_pos rfl, ← xor32, P_nat, half]
  rfl
theorem bit_no (s : BitVec 32) (x : UInt8) (i : Nat) (h : (bits .and .u32 (bits .xor .u32 (s.toNat : Int) ((x.toNat : Int) / 2 ^ i % 4294967296)) 1 == 1) = false) : (s.toNat : Int) / 2 = ((Sm.g s (Sm.by32 x >>> i)).toNat : Int) := by
  rw [bit_test] at h
  have h1 : ¬ (s ^^^ (Sm.by32 x >>> i)).toNat % 2 = 1 := by
    have := of_decide_eq_false h
    omega
  unfold Sm.g
  rw [lsb, decide_eq_false h1, if_neg (by simp), BitVec.xor_zero, half]
theorem not32 (c : BitVec 32) : bits .xor .u32 IntKind.u32.max (c.toNat : Int) = ((c ^^^ Jn.F).toNat : Int) := by
  rw [show IntKind.u32.max = ((Jn.F.toNat : Nat) : Int) from rfl, xor32, BitVec.xor_comm]
set_option maxHeartbeats 2000000 in
set_option maxRecDepth 100000 in
theorem RCrc_any (l : List UInt8) (v : Value) (w : World) (hv : RB w v l) (hl : l.length ≤ 1000000000) :
    Calls Try.prog 60 #[v] w fun e w' => e = .returned (.int .u32 ((Sm.crcL Jn.F l ^^^ Jn.F).toNat : Int)) ∧ w' = w := by
  obtain ⟨a, cp, rfl⟩ := RB.form hv
  obtain ⟨X, HX⟩ : ∃ X, Hid (X = Sm.crcL Jn.F l ^^^ Jn.F) := ⟨_, rfl⟩
  rw [← HX.out]
  go_enter Try.func60, Try.ntmps60
  go_wp2
  go_loopw [3, 4] (fun y i wr => ∃ j : Nat, j ≤ l.length ∧ i = .int .i64 j ∧ y = .int .u32 ((Sm.crcL Jn.F (l.take j)).toNat : Int) ∧ w = wr) (fun _ i _ => l.length - (intOf i).toNat)
  case atStart => exact ⟨0, Nat.zero_le _, rfl, rfl, rfl⟩
  case round =>
    obtain ⟨j, hj, rfl, rfl, rfl⟩ := hrel
    by_cases hlt : j < l.length
    · obtain ⟨_, hc, b, o, rfl, hcell⟩ := RB.at hv hlt
      have HC : Hid (Sm.crcL Jn.F (l.take (j + 1)) = Sm.on (Sm.crcL Jn.F (l.take j)) l[j]) := by
        show Sm.crcL Jn.F (l.take (j + 1)) = _
        rw [List.take_succ_eq_append_getElem hlt, Sm.crcL_app]; rfl
      have hx := l[j].toNat_lt
      have HG : Hid (Sm.gs (Sm.crcL Jn.F (l.take j)) (Sm.by32 l[j]) 8 = Sm.on (Sm.crcL Jn.F (l.take j)) l[j]) := Sm.gs_on _ _
      generalize l[j] = x at *
      generalize Sm.crcL Jn.F (l.take j) = m2 at *
      go_wp2
      go_loopw [3, 5] (fun y k wr => ∃ i : Nat, i ≤ 8 ∧ k = .int .i64 i ∧ y = .int .u32 ((Sm.gs m2 (Sm.by32 x) i).toNat : Int) ∧ w = wr) (fun _ i _ => 8 - (intOf i).toNat)
      case atStart => exact ⟨0, Nat.zero_le _, rfl, rfl, rfl⟩
      case round =>
        obtain ⟨i, hi, rfl, rfl, rfl⟩ := hrel
        by_cases hi8 : i < 8
        · go_wp2
          · rename_i hq
            exact ⟨⟨i + 1, by omega, by go_num, congrArg _ (bit_yes _ _ _ hq), trivial⟩, by simp [intOf]; omega⟩
          · rename_i hq
            exact ⟨⟨i + 1, by omega, by go_num, congrArg _ (bit_no _ _ _ hq), trivial⟩, by simp [intOf]; omega⟩
        · obtain rfl : i = 8 := by omega
          rw [HG.out]
          go_wp2
          exact ⟨⟨j + 1, by omega, by go_num, by rw [HC.out], trivial⟩, by simp [intOf]; omega⟩
    · have hjl : l.take j = l := List.take_of_length_le (by omega)
      rw [hjl]
      have hn := not32 (Sm.crcL Jn.F l)
      rw [← HX.out] at hn
      generalize Sm.crcL Jn.F l = y at *
      go_wp2
      go_ret
      exact ⟨by first | exact ret_int hn | rfl, rfl⟩
/-- A slice reads as these rows of bytes. -/
def RBs (w : World) (v : Value) (ls : List (List UInt8)) : Prop :=
  (∃ a c, v = .slice a 0 c ∧ ls = []) ∨ ∃ b o c, v = .slice (some ⟨b, o, none⟩) ls.length c ∧ ls.length ≤ c ∧ ∀ (j : Nat) l, ls[j]? = some l → ∃ x, w.cell? ⟨b, o + j, none⟩ = some x ∧ RB w x l
theorem RBs.below {w w' : World} {v : Value} {ls : List (List UInt8)} (h : RBs w v ls) (hb : Below w.heap.size w w') : RBs w' v ls := by
  rcases h with h | ⟨b, o, c, rfl, hc, hr⟩
  · exact .inl h
  · refine .inr ⟨b, o, c, rfl, hc, fun j l hj => ?_⟩
    obtain ⟨x, h1, h2⟩ := hr j l hj
    exact ⟨x, (hb.cell (p := ⟨b, o + j, none⟩) (cell_lt h1)).trans h1, RB.below h2 hb⟩
theorem RBs.form {w : World} {v : Value} {ls : List (List UInt8)} (h : RBs w v ls) : ∃ a c, v = .slice a ls.length c := by
  rcases h with ⟨a, c, rfl, rfl⟩ | ⟨b, o, c, rfl, _, _⟩
  · exact ⟨a, c, rfl⟩
  · exact ⟨_, c, rfl⟩
theorem RBs.at {w : World} {a : Option Addr} {n c : Nat} {ls : List (List UInt8)} (h : RBs w (.slice a n c) ls) {j : Nat} {l : List UInt8} (hj : ls[j]? = some l) : n = ls.length ∧ n ≤ c ∧ ∃ b o, a = some ⟨b, o, none⟩ ∧ ∃ x, w.cell? ⟨b, o + j, none⟩ = some x ∧ RB w x l := by
  rcases h with ⟨a', c', he, rfl⟩ | ⟨b, o, c', he, hc, hr⟩
  · simp at hj
  · cases he
    exact ⟨rfl, hc, b, o, rfl, hr j l hj⟩
set_option maxHeartbeats 2000000 in
set_option maxRecDepth 100000 in
theorem Crc_any (ls : List (List UInt8)) (v : Value) (w : World) (hv : RBs w v ls) (hl : ls.length ≤ 1000000000) (hz : ∀ l ∈ ls, l.length ≤ 1000000000) :
    Calls Try.prog 77 #[v] w fun e w' => e = .returned (.int .u32 ((Sm.crcL Jn.F ls.flatten ^^^ Jn.F).toNat : Int)) ∧ Below w.heap.size w w' := by
  obtain ⟨a, cp, rfl⟩ := hv.form
  obtain ⟨X, HX⟩ : ∃ X, Hid (X = Sm.crcL Jn.F ls.flatten ^^^ Jn.F) := ⟨_, rfl⟩
  rw [← HX.out]
  go_enter Try.func77, Try.ntmps77
  go_wp2
  go_loopw [3, 10] (fun y i wr => ∃ j : Nat, j ≤ ls.length ∧ i = .int .i64 j ∧ y = .int .u32 ((Sm.crcL Jn.F (ls.take j).flatten).toNat : Int) ∧ Below w.heap.size w wr) (fun _ i _ => ls.length - (intOf i).toNat)
  case atStart => exact ⟨0, Nat.zero_le _, rfl, rfl, Below.refl _ _⟩
  case round =>
    obtain ⟨j, hj, rfl, rfl, hB⟩ := hrel
    by_cases hlt : j < ls.length
    · obtain ⟨_, hc, b, o, rfl, xv, hcell, hx⟩ := (hv.below hB).at (List.getElem?_eq_getElem hlt)
      have HC : Hid (Sm.crcL Jn.F (ls.take (j + 1)).flatten = Sm.crcL (Sm.crcL Jn.F (ls.take j).flatten) ls[j]) := by
        show Sm.crcL Jn.F (ls.take (j + 1)).flatten = _
        rw [List.take_succ_eq_append_getElem hlt, List.flatten_append, Sm.crcL_app]
        simp
      have hl2 := hz _ (List.getElem_mem hlt)
      generalize ls[j] = l at *
      generalize Sm.crcL Jn.F (ls.take j).flatten = c2 at *
      obtain ⟨a2, cp2, rfl⟩ := RB.form hx
      go_wp2
      go_loopw [3, 16] (fun y k wr2 => ∃ i : Nat, i ≤ l.length ∧ k = .int .i64 i ∧ y = .int .u32 ((Sm.crcL c2 (l.take i)).toNat : Int) ∧ Below wr.heap.size wr wr2) (fun _ i _ => l.length - (intOf i).toNat)
      case atStart => exact ⟨0, Nat.zero_le _, rfl, rfl, Below.refl _ _⟩
      case round =>
        obtain ⟨i, hi, rfl, rfl, hB2⟩ := hrel
        by_cases hi2 : i < l.length
        · obtain ⟨_, hc2, b2, o2, rfl, hcell2⟩ := RB.at (RB.below hx hB2) hi2
          have HC2 : Hid (Sm.crcL c2 (l.take (i + 1)) = Sm.on (Sm.crcL c2 (l.take i)) l[i]) := by
            show Sm.crcL c2 (l.take (i + 1)) = _
            rw [List.take_succ_eq_append_getElem hi2, Sm.crcL_app]; rfl
          have C1 := crcOn_any (Sm.crcL c2 (l.take i)) l[i]
          generalize l[i] = x at *
          generalize Sm.crcL c2 (l.take i) = c3 at *
          go_wp2_with (go_at_call 89; refine (C1 _).mono ?_; rintro e w2 ⟨rfl, hB3⟩)
          exact ⟨⟨i + 1, by omega, by go_num, by rw [HC2.out], bel hB2 hB3⟩, by simp [intOf]; omega⟩
        · have hjl : l.take i = l := List.take_of_length_le (by omega)
          rw [hjl]
          go_wp2
          exact ⟨⟨j + 1, by omega, by go_num, by rw [HC.out], bel hB hB2⟩, by simp [intOf]; omega⟩
    · have hjl : ls.take j = ls := List.take_of_length_le (by omega)
      rw [hjl]
      have hn := xF (Sm.crcL Jn.F ls.flatten)
      rw [← HX.out] at hn
      generalize Sm.crcL Jn.F ls.flatten = y at *
      go_wp2
      go_ret
      exact ⟨by first | exact ret_int hn | rfl, hB⟩
theorem crc_of (l : List UInt8) : (((Sm.crcL Jn.F l ^^^ Jn.F).toNat : Nat) : Int) = (Jn.crc l : Int) := rfl
end Go.Proofs.Ytcjbceidgaieaaa
