/- The walk of the law SumOne, out of the contracts. -/
import Derived.Test.YtfjgmejobldjoaaSumArgs
set_option linter.unusedVariables false
set_option linter.unusedSimpArgs false
namespace Go.Proofs.Ytfjgmejobldjoaa.sumOne
open Go.RowKit
set_option maxHeartbeats 2000000 in
set_option maxRecDepth 100000 in
theorem walk (v0 : Value) (l : List UInt8) (n d : Int) (w : World) (h0 : ArgB w v0 l) (hn : (Lit.int .u64 n).wf = true) (hd : (Lit.int .i64 d).wf = true) :
    Calls Try.prog 3 #[v0, .int .u64 n, .int .i64 d] w fun e w' => e = .returned (.bool true) ∧ Below w.heap.size w w' := by
  obtain ⟨hv, hl⟩ := h0
  have hd2 := i64_bd hd
  obtain ⟨m, hm, hm2⟩ : ∃ m : Nat, n = (m : Int) ∧ m < 18446744073709551616 := by
    have hb : 0 ≤ n ∧ n ≤ 18446744073709551615 := by
      simp only [Lit.wf, Bool.and_eq_true, decide_eq_true_eq] at hn
      exact hn
    exact ⟨n.toNat, by omega, by omega⟩
  subst hm
  clear hn hd
  obtain ⟨ad, cp, rfl⟩ := RB.form hv
  have cl := long_any l _ w hv hl
  by_cases h3 : 3000 < l.length
  · have hb : decide (3000 < l.length) = true := decide_eq_true h3
    rw [hb] at cl
    clear hb
    go_enter Try.func3, Try.ntmps3
    go_wp2_with (first
      | (go_at_call 6; refine cl.mono ?_; rintro e w2 ⟨rfl, rfl⟩)
      | (go_at_call 7; refine (alive8_any _).mono ?_; rintro e w3 ⟨rfl, hB⟩))
    go_ret
    exact ⟨rfl, hB⟩
  · have hb : decide (3000 < l.length) = false := decide_eq_false h3
    rw [hb] at cl
    clear hb
    have hz : l.length ≤ 1000000000 := by omega
    have HV : Hid (RB w (.slice ad l.length cp) l) := hv
    have ca := fun W (h : RB W (.slice ad l.length cp) l) => Add_any 0#32 0#64 l _ W h hz
    rw [again32] at ca
    have cm := fun W => SMark_any (Sm.crcL F l ^^^ F) (Sm.markL G l ^^^ G) W
    have cc := fun W => SCrc_any (Sm.crcL F l ^^^ F) (Sm.markL G l ^^^ G) W
    rw [back64] at cm
    have rc := fun W (h : RB W (.slice ad l.length cp) l) => RCrc_any l _ W h hz
    have rm := fun W (h : RB W (.slice ad l.length cp) l) => RMark_any l _ W h hz
    have hx := fun W => Hex_any m d W hm2 hd2
    have rx := fun W => RHex_any m d W hm2 hd2
    have hst := str_list (Sm.hexA (digs d) m [])
    generalize Sm.crcL F l ^^^ F = c1 at *
    generalize Sm.markL G l ^^^ G = m1 at *
    generalize Sm.markL G l = m2 at *
    generalize Sm.hexA (digs d) m [] = t at *
    clear hv hl
    go_enter Try.func3, Try.ntmps3
    go_wp2_with (first
      | (go_at_call 6; refine cl.mono ?_; rintro e w2 ⟨rfl, rfl⟩)
      | (go_at_call 8; refine (New_any _).mono ?_; rintro e w3 ⟨rfl, hB3⟩)
      | (go_at_call 9; refine (ca _ (ReadsCells.below HV.out hB3)).mono ?_; rintro e w4 ⟨rfl, hB4⟩; have hB5 := (bel hB3 hB4).alloc (bel hB3 hB4).size (.cells #[.int .u32 (c1.toNat : Int), .int .u64 (m1.toNat : Int)] 28))
      | (go_at_call 10; refine (cc _).mono ?_; rintro e w6 ⟨rfl, hB6⟩; have hS6 := SAt.below (heap_new w4 (.cells #[.int .u32 (c1.toNat : Int), .int .u64 (m1.toNat : Int)] 28)) hB6; have q0 := hS6.c0; have q1 := hS6.c1; have hB7 := bel hB5 hB6)
      | (go_at_call 11; refine (rc _ (ReadsCells.below HV.out hB7)).mono ?_; rintro e w7 ⟨rfl, he7⟩; subst he7)
      | (go_at_call 12; refine (cm _).mono ?_; rintro e w8 ⟨rfl, hB8⟩; have hB9 := bel hB7 hB8)
      | (go_at_call 13; refine (rm _ (ReadsCells.below HV.out hB9)).mono ?_; rintro e w9 ⟨rfl, he9⟩; subst he9)
      | (go_at_call 14; refine (hx _).mono ?_; rintro e w10 ⟨rfl, hB10⟩; have hB11 := bel hB9 hB10)
      | (go_at_call 15; refine (rx _).mono ?_; rintro e w11 ⟨rfl, he11⟩; subst he11)
      | (go_at_call 7; refine (alive8_any _).mono ?_; rintro e w12 ⟨rfl, hB12⟩; have hB13 := bel hB11 hB12))
    go_ret
    exact ⟨rfl, hB13⟩
end Go.Proofs.Ytfjgmejobldjoaa.sumOne
