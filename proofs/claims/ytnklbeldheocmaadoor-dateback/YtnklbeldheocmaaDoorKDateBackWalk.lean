/- The walk of DateBack. -/
import Derived.Test.YtnklbeldheocmaaDoorKDateE
namespace Go.Proofs.YtnklbeldheocmaaDoor.dateBack
open Go.RowKit
set_option maxRecDepth 100000 in
set_option maxHeartbeats 2000000 in
theorem yes (n y m d : Int) (w : World) (hv : Dat.Valid y m d) (hn : n / 86400 = Dat.num y m d) (h0 : -9223372036854775808 ≤ n) (h1 : n ≤ 9223372036854775807) (hE : Env6 w) :
    Calls Tryd.prog 7 #[.int .i64 n] w fun e w' => e = .returned (.bool true) ∧ Below w.heap.size w w' := by
  have hz := (zero_of_info zeroM).1
  unfold mVal mCells mZero at hz
  have hF := Format_yes n y m d w hv hn h0 h1 hE
  have hP := fun (w : World) (hA : Ahead w) => Parse_date (fmtL y m d (n % 86400)) w hA (by rw [fmtL_len]; omega)
  have hp := parse_fmt hv (L := n % 86400) (by omega) (by omega)
  have e : Dat.num y m d * 86400 + n % 86400 = n := by rw [← hn]; omega
  rw [e] at hp
  rw [hp] at hP
  have hl : (str (fmtL y m d (n % 86400))).size = 20 := by rw [str_size, fmtL_len]
  generalize fmtL y m d (n % 86400) = t at hF hP hl
  have hP2 : ∀ (w : World), Ahead w → Calls Tryd.prog 15 #[.string (str t)] w fun e w' => e = .returned (.tuple #[.agg #[.int .i64 n, .bool true, .bool true], .int .i64 0]) ∧ Below w.heap.size w w' := hP
  clear hP hp e hn hv
  go_enter Tryd.func7, Tryd.ntmps7
  go_wp2_with (first
    | (go_at_call 17; refine hF.mono ?_; rintro e w1 ⟨rfl, hb⟩; have hE1 := hE.below hb)
    | (go_at_call 15; refine (hP2 _ hE1.ah).mono ?_; rintro e w2 ⟨rfl, hb2⟩; have hA2 := (Below.refl _ w2).alloc (Nat.le_refl _) (.cells #[.int .i64 n, .bool true, .bool true] 36); have hE2 := (hE1.below hb2).below hA2; have hB2 := (hb.trans (hb2.mono hb.size)).trans (hA2.mono (hb.trans (hb2.mono hb.size)).size))
    | (go_at_call 12; refine (alive6_any _ hE2).mono ?_; rintro e w3 ⟨rfl, hb3⟩; have hB3 := hB2.trans (hb3.mono hB2.size)))
  go_ret
  exact ⟨rfl, hB3⟩
set_option maxRecDepth 100000 in
set_option maxHeartbeats 2000000 in
theorem no (n : Int) (w : World) (hn : n / 86400 < -719162 ∨ 2932896 < n / 86400) (h0 : -9223372036854775808 ≤ n) (h1 : n ≤ 9223372036854775807) (hE : Env6 w) :
    Calls Tryd.prog 7 #[.int .i64 n] w fun e w' => e = .returned (.bool true) ∧ Below w.heap.size w w' := by
  have hF := Format_no n w hn h0 h1
  go_enter Tryd.func7, Tryd.ntmps7
  go_wp2_with (first
    | (go_at_call 17; refine hF.mono ?_; rintro e w1 ⟨rfl, hb⟩; have hE1 := hE.below hb)
    | (go_at_call 12; refine (alive6_any _ hE1).mono ?_; rintro e w3 ⟨rfl, hb3⟩; have hB3 := hb.trans (hb3.mono hb.size)))
  go_ret
  exact ⟨rfl, hB3⟩
theorem walk (n : Int) (w : World) (hw : (Lit.int .i64 n).wf = true) (hE : Env6 w) :
    Calls Tryd.prog 7 #[.int .i64 n] w fun e w' => e = .returned (.bool true) ∧ Below w.heap.size w w' := by
  have hb := i64_bd hw
  by_cases h : n / 86400 < -719162 ∨ 2932896 < n / 86400
  · exact no n w h hb.1 hb.2 hE
  · obtain ⟨y, m, d, hv, hn⟩ := Dat.some_day (n / 86400) (by omega) (by omega)
    exact yes n y m d w hv hn.symm hb.1 hb.2 hE
end Go.Proofs.YtnklbeldheocmaaDoor.dateBack
