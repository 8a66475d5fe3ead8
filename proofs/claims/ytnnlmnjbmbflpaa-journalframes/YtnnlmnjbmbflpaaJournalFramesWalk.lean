/- The walk of the law JournalFrames, out of the contracts. -/
import Derived.Test.YtnnlmnjbmbflpaaJnM
import Derived.Test.YtnnlmnjbmbflpaaJnQ
import Derived.Test.YtnnlmnjbmbflpaaDkO
set_option linter.unusedVariables false
set_option linter.unusedSimpArgs false
namespace Go.Proofs.Ytnnlmnjbmbflpaa.journalFrames
open Go.RowKit
theorem str_same (l : List UInt8) : ((str l).toList == (str l).toList) = true := by simp
set_option maxHeartbeats 4000000 in
set_option maxRecDepth 100000 in
theorem walk (v0 : Value) (la : List UInt8) (v1 : Value) (lb : List UInt8) (w : World) (h0 : ArgB w v0 la) (h1 : ArgB w v1 lb) :
    Calls Try.prog 5 #[v0, v1] w fun e w' => e = .returned (.bool true) ∧ Below w.heap.size w w' := by
  obtain ⟨hva, hla⟩ := h0
  obtain ⟨hvb, hlb⟩ := h1
  obtain ⟨a0, c0, rfl⟩ := hva.form
  obtain ⟨a1, c1, rfl⟩ := hvb.form
  have HM := hide9 hla
  unfold maxLen at hla hlb
  by_cases hb : 20000 < lb.length
  · clear hva hvb
    go_enter Try.func5, Try.ntmps5
    go_wp2_with (go_at_call 22; refine (alive10_any _).mono ?_; rintro e w3 ⟨rfl, hB⟩)
    go_ret
    exact ⟨rfl, hB⟩
  · by_cases ha : 20000 < la.length
    · clear hva hvb
      go_enter Try.func5, Try.ntmps5
      go_wp2_with (go_at_call 22; refine (alive10_any _).mono ?_; rintro e w3 ⟨rfl, hB⟩)
      go_ret
      exact ⟨rfl, hB⟩
    · have HA := hide9 hva
      have HB := hide9 hvb
      clear hva hvb
      have hsl : (Jn.scan lb).length ≤ 1000000 := by
        have h2 := Jn.frames_length (Jn.scan lb)
        have h3 := Jn.scan_size lb
        omega
      by_cases hr : Jn.isRec la
      · have C1 := Frame_yes HA.out hr
        have HR := hide9 hr
        have hst := str_same (Jn.frame la)
        clear hr
        go_enter Try.func5, Try.ntmps5
        go_wp2_with (first
          | (go_at_call 36; refine C1.mono ?_; rintro e w1 ⟨u1, rfl, ho1, hB1⟩; have C2 := RFrame_yes (HA.out.below hB1) HR.out; clear C1)
          | (go_at_call 37; refine C2.mono ?_; rintro e w2 ⟨a2, c2, rfl, ho2, hB2⟩; have hB12 := bel hB1 hB2; have C3 := Scan_any (HB.out.below hB12) (by omega); clear C2)
          | (go_at_call 38; refine C3.mono ?_; rintro e w3 ⟨u3, rfl, ho3, hB3⟩; have C4 := RScan_any (HB.out.below (bel hB12 hB3)) (by omega); clear C3)
          | (go_at_call 39; refine C4.mono ?_; rintro e w4 ⟨u4, rfl, ho4, hB4⟩; have C5 := Same_any (ho3.below hB4).rbs ho4.rbs hsl hsl; rw [decide_eq_true rfl] at C5; have k1 := conv_RB (ho1.reads.below (bel (bel hB2 hB3) hB4)); have k2 := conv_RB (ho2.reads.below (bel hB3 hB4)); have hBB := bel (bel hB12 hB3) hB4; clear C4 ho1 ho2 ho3 ho4 hB1 hB2 hB3 hB4 hB12)
          | (go_at_call 33; refine C5.mono ?_; rintro e w5 ⟨rfl, hB5⟩; clear C5)
          | (go_at_call 22; refine (alive10_any _).mono ?_; rintro e w6 ⟨rfl, hB6⟩))
        go_ret
        exact ⟨rfl, bel (bel hBB hB5) hB6⟩
      · have C1 := Frame_no HA.out HM.out hr
        have C2 := RFrame_no HA.out HM.out hr
        clear hr
        go_enter Try.func5, Try.ntmps5
        go_wp2_with (first
          | (go_at_call 36; refine C1.mono ?_; rintro e w1 ⟨rfl, he⟩; replace he := he.symm; subst he; clear C1)
          | (go_at_call 37; refine C2.mono ?_; rintro e w2 ⟨rfl, he⟩; replace he := he.symm; subst he; have C3 := Scan_any HB.out (by omega); clear C2)
          | (go_at_call 38; refine C3.mono ?_; rintro e w3 ⟨u3, rfl, ho3, hB3⟩; have C4 := RScan_any (HB.out.below hB3) (by omega); clear C3)
          | (go_at_call 39; refine C4.mono ?_; rintro e w4 ⟨u4, rfl, ho4, hB4⟩; have C5 := Same_any (ho3.below hB4).rbs ho4.rbs hsl hsl; rw [decide_eq_true rfl] at C5; have k1 := conv_RB (RB.nil w4); have hBB := bel hB3 hB4; clear C4 ho3 ho4 hB3 hB4)
          | (go_at_call 33; refine C5.mono ?_; rintro e w5 ⟨rfl, hB5⟩; clear C5)
          | (go_at_call 22; refine (alive10_any _).mono ?_; rintro e w6 ⟨rfl, hB6⟩))
        go_ret
        exact ⟨rfl, bel (bel hBB hB5) hB6⟩
end Go.Proofs.Ytnnlmnjbmbflpaa.journalFrames
