/- The walk of DateMoments. -/
import Derived.Test.YtnklbeldheocmaaDoorKDateE
import Derived.Test.YtnklbeldheocmaaDoorKDR7
namespace Go.Proofs.YtnklbeldheocmaaDoor.dateMoments
open Go.RowKit
theorem formats (n : Int) (n0 : -9223372036854775808 ≤ n) (n1 : n ≤ 9223372036854775807) : ∃ (tx : ByteArray) (g : Int),
    (∀ w, Env6 w → Calls Tryd.prog 17 #[.int .i64 n] w fun e w' => e = .returned (.tuple #[.string tx, .int .i64 g]) ∧ Below w.heap.size w w') ∧
    (∀ w, Calls Tryd.prog 18 #[.int .i64 n] w fun e w' => e = .returned (.tuple #[.string tx, .int .i64 g]) ∧ Below w.heap.size w w') := by
  by_cases h : n / 86400 < -719162 ∨ 2932896 < n / 86400
  · refine ⟨⟨#[]⟩, 3, fun w _ => Format_no n w h n0 n1, fun w => (RFormat_no n w h n0 n1).mono ?_⟩
    rintro e w' ⟨rfl, rfl⟩
    exact ⟨rfl, Below.refl _ _⟩
  · obtain ⟨y, m, d, hv, hn⟩ := Dat.some_day (n / 86400) (by omega) (by omega)
    exact ⟨_, 0, fun w hE => Format_yes n y m d w hv hn.symm n0 n1 hE, fun w => RFormat_yes n y m d w hv hn.symm n0 n1⟩
set_option maxRecDepth 100000 in
set_option maxHeartbeats 2000000 in
theorem walk_str (l : List UInt8) (n : Int) (w : World) (n0 : -9223372036854775808 ≤ n) (n1 : n ≤ 9223372036854775807) (hE : Env6 w) :
    Calls Tryd.prog 5 #[.string (str l), .int .i64 n] w fun e w' => e = .returned (.bool true) ∧ Below w.heap.size w w' := by
  have hz0 := (zero_of_info zeroM).1
  unfold mVal mCells mZero at hz0
  have hz1 := (zero_of_info zeroMR).1
  unfold mVal mCells mZero at hz1
  have hz : (str l).size = l.length := str_size l
  by_cases hl : 1000 < l.length
  · have hlI : (1000 : Int) < (l.length : Int) := by omega
    go_enter Tryd.func5, Tryd.ntmps5
    go_wp2_with (first
      | (go_at_call 12; refine (alive6_any _ hE).mono ?_; rintro e w3 ⟨rfl, hb3⟩))
    go_ret
    exact ⟨rfl, hb3⟩
  · have hlI : ¬ (1000 : Int) < (l.length : Int) := by omega
    have ht := trim_len l
    have hP := fun w h => Parse_date l w h (by omega)
    have hR := fun w => RParse_trim l (Asc.trim l) w (by omega) (fun w => by
      have := RTrim_any (str l) w (by rw [str_size]; omega)
      rw [str_data] at this
      exact this)
    unfold parV at hR
    obtain ⟨tx, g, hF, hG⟩ := formats n n0 n1
    generalize (Dat.parseR (Asc.trim l)).getD mZero = m at hP hR
    generalize optE (Dat.parseR (Asc.trim l)) = er at hP hR
    obtain ⟨s, t, z⟩ := m
    rw [mVal_eq] at hP hR
    have hsame : (tx.toList == tx.toList) = true := by simp
    clear ht hl
    go_enter Tryd.func5, Tryd.ntmps5
    go_wp2_with (first
      | (go_at_call 15; refine (hP _ hE.ah).mono ?_; rintro e w1 ⟨rfl, hb1⟩; have hA1 := (Below.refl _ w1).alloc (Nat.le_refl _) (.cells #[.int .i64 s, .bool t, .bool z] 36); have hE1 := (hE.below hb1).below hA1; have hB1 := hb1.trans (hA1.mono hb1.size); have hM1 := alloc_MAt3 w1 s t z; clear hA1)
      | (go_at_call 16; refine (hR _).mono ?_; rintro e w2 ⟨rfl, hb2⟩; have hA2 := (Below.refl _ w2).alloc (Nat.le_refl _) (.cells #[.int .i64 s, .bool t, .bool z] 39); have hM2 := (hM1.below hb2).below hA2; have hE2 := (hE1.below hb2).below hA2; have hB2 := (hB1.trans (hb2.mono hB1.size)).trans (hA2.mono (hB1.trans (hb2.mono hB1.size)).size); have hN2 := alloc_RMAt w2 s t z; clear hA2 hM1)
      | (go_at_call 17; refine (hF _ hE2).mono ?_; rintro e w3 ⟨rfl, hb3⟩; have hM3 := hM2.below hb3; have hN3 := hN2.below hb3; have hE3 := hE2.below hb3; have hB3 := hB2.trans (hb3.mono hB2.size); clear hM2 hN2)
      | (go_at_call 18; refine (hG _).mono ?_; rintro e w4 ⟨rfl, hb4⟩; have hM4 := hM3.below hb4; have hN4 := hN3.below hb4; have hE4 := hE3.below hb4; have hB4 := hB3.trans (hb4.mono hB3.size); have q0 := hM4.c0; have q1 := hM4.c1; have q2 := hM4.c2; have r0 := hN4.c0; have r1 := hN4.c1; have r2 := hN4.c2; clear hM3 hN3)
      | (go_at_call 12; refine (alive6_any _ hE4).mono ?_; rintro e w5 ⟨rfl, hb5⟩))
    go_ret
    exact ⟨rfl, hB4.trans (hb5.mono hB4.size)⟩
theorem walk (a0 : ByteArray) (n : Int) (w : World) (_h0 : a0.size ≤ maxLen) (hw : (Lit.int .i64 n).wf = true) (hE : Env6 w) :
    Calls Tryd.prog 5 #[.string a0, .int .i64 n] w fun e w' => e = .returned (.bool true) ∧ Below w.heap.size w w' := by
  obtain ⟨n0, n1⟩ := i64_bd hw
  have := walk_str a0.data.toList n w n0 n1 hE
  rw [str_self] at this
  exact this
end Go.Proofs.YtnklbeldheocmaaDoor.dateMoments
