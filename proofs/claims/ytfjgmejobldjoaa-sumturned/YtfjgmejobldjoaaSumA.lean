/- The contracts of fourBits, crcOn, markOn. -/
import Derived.Test.YtfjgmejobldjoaaSumRead
set_option linter.unusedVariables false
set_option linter.unusedSimpArgs false
namespace Go.Proofs.Ytfjgmejobldjoaa
open Go.RowKit
theorem low_self (n : Nat) (h : n < 16) : bits .and .u32 (n : Int) 15 = (n : Int) := by
  rw [show (15 : Int) = ((15 : Nat) : Int) from rfl, u32_and_nat _ _ (by omega) (by decide), nat_mask4, Nat.mod_eq_of_lt h]
set_option maxHeartbeats 2000000 in
set_option maxRecDepth 100000 in
theorem fourBits_any (x : Int) (n : Nat) (w : World) (hx : x = n) (hn : n < 16) :
    Calls Try.prog 21 #[.int .u32 x] w fun e w' => e = .returned (.int .u32 ((Sm.tab.getD n 0 : Nat) : Int)) ∧ Below w.heap.size w w' := by
  subst hx
  have hb := low_self n hn
  go_enter Try.func21, Try.ntmps21
  go_wp2
  go_ret
  refine ⟨?_, ?_⟩
  · clear hb
    rcases (by omega : n = 0 ∨ n = 1 ∨ n = 2 ∨ n = 3 ∨ n = 4 ∨ n = 5 ∨ n = 6 ∨ n = 7 ∨ n = 8 ∨ n = 9 ∨ n = 10 ∨ n = 11 ∨ n = 12 ∨ n = 13 ∨ n = 14 ∨ n = 15) with rfl | rfl | rfl | rfl | rfl | rfl | rfl | rfl | rfl | rfl | rfl | rfl | rfl | rfl | rfl | rfl <;> rfl
  · exact (Below.refl _ w).alloc (Nat.le_refl _) _
theorem byx (m : BitVec 64) (c : UInt8) : bits .xor .u64 (m.toNat : Int) (c.toNat : Int) = ((m ^^^ Sm.by64 c).toNat : Int) := by
  rw [← by64_nat c, xor64]
theorem byx32 (m : BitVec 32) (c : UInt8) : bits .xor .u32 (m.toNat : Int) (c.toNat : Int) = ((m ^^^ Sm.by32 c).toNat : Int) := by
  rw [← by32_nat c, xor32]
theorem step_mk (m : BitVec 64) (c : UInt8) : IntKind.wrap .u64 (bits .xor .u64 (m.toNat : Int) (c.toNat : Int) * 1099511628211) = ((Sm.mk m c).toNat : Int) := by
  rw [byx, mul64]
  rfl
set_option maxHeartbeats 2000000 in
set_option maxRecDepth 100000 in
theorem markOn_any (m : BitVec 64) (c : UInt8) (w : World) :
    Calls Try.prog 20 #[.int .u64 (m.toNat : Int), .int .u8 (c.toNat : Int)] w fun e w' => e = .returned (.int .u64 ((Sm.mk m c).toNat : Int)) ∧ w' = w := by
  have hc := c.toNat_lt
  go_enter Try.func20, Try.ntmps20
  go_wp2
  go_ret
  exact ⟨ret_int (step_mk m c), rfl⟩
theorem low_tab (u : BitVec 32) : u.toNat % 16 < 16 := Nat.mod_lt _ (by decide)
theorem tab_lt (n : Nat) (h : n < 16) : Sm.tab.getD n 0 < 4294967296 := by
  have : ∀ i : Fin 16, Sm.tab.getD i.val 0 < 4294967296 := by decide
  exact this ⟨n, h⟩
theorem step_four (u : BitVec 32) : bits .xor .u32 ((u.toNat : Int) / 16) ((Sm.tab.getD (u.toNat % 16) 0 : Nat) : Int) = ((Sm.f4 u).toNat : Int) := by
  rw [← Sm.four, ← xor32, shr32]
  have : (BitVec.ofNat 32 (Sm.tab.getD (u.toNat % 16) 0)).toNat = Sm.tab.getD (u.toNat % 16) 0 := by
    rw [BitVec.toNat_ofNat]
    exact Nat.mod_eq_of_lt (tab_lt _ (low_tab u))
  rw [this]
  rfl
set_option maxHeartbeats 2000000 in
set_option maxRecDepth 100000 in
theorem crcOn_any (s : BitVec 32) (c : UInt8) (w : World) :
    Calls Try.prog 19 #[.int .u32 (s.toNat : Int), .int .u8 (c.toNat : Int)] w fun e w' => e = .returned (.int .u32 ((Sm.on s c).toNat : Int)) ∧ Below w.heap.size w w' := by
  have hc := c.toNat_lt
  have h1 := byx32 s c
  have h4 := step_four (s ^^^ Sm.by32 c)
  have k1 := low15 (s ^^^ Sm.by32 c)
  have k2 := low15 (Sm.f4 (s ^^^ Sm.by32 c))
  have m1 := step_four (Sm.f4 (s ^^^ Sm.by32 c))
  have l1 := low_tab (s ^^^ Sm.by32 c)
  have l2 := low_tab (Sm.f4 (s ^^^ Sm.by32 c))
  have HF : Hid (Sm.on s c = Sm.f4 (Sm.f4 (s ^^^ Sm.by32 c))) := rfl
  generalize s ^^^ Sm.by32 c = u at *
  generalize Sm.f4 u = v at *
  generalize Sm.f4 v = z at *
  have C1 := fun W => fourBits_any ((u.toNat : Int) % 16) (u.toNat % 16) W (by omega) l1
  have C2 := fun W => fourBits_any ((v.toNat : Int) % 16) (v.toNat % 16) W (by omega) l2
  generalize Sm.tab.getD (u.toNat % 16) 0 = q1 at *
  generalize Sm.tab.getD (v.toNat % 16) 0 = q2 at *
  go_enter Try.func19, Try.ntmps19
  go_wp2_with (first
    | (go_at_call 21; refine (C1 _).mono ?_; rintro e w2 ⟨rfl, hB⟩)
    | (go_at_call 21; refine (C2 _).mono ?_; rintro e w3 ⟨rfl, hB2⟩))
  go_ret
  rw [HF.out]
  exact ⟨rfl, bel hB hB2⟩
end Go.Proofs.Ytfjgmejobldjoaa
