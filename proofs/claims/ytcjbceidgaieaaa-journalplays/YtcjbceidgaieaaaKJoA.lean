/- The document's frames of records. -/
import Derived.Test.YtcjbceidgaieaaaKJnP
import Derived.Test.YtcjbceidgaieaaaKJnFI
set_option linter.unusedVariables false
set_option linter.unusedSimpArgs false
namespace Go.Proofs.Ytcjbceidgaieaaa
open Go.RowKit
/-- What the document's frames answers. -/
def RFs (w : World) (rs : List (List UInt8)) (e : Ending) (w' : World) : Prop := Below w.heap.size w w' ∧ ((Jn.All rs ∧ ∃ L a c, Hid (L = Jn.frames rs) ∧ e = .returned (.tuple #[.slice a L.length c, .bool true]) ∧ OwnsBytes w' w.heap.size (.slice a L.length c) L) ∨ (¬ Jn.All rs ∧ e = .returned (.tuple #[.slice none 0 0, .bool false])))
set_option maxHeartbeats 4000000 in
set_option maxRecDepth 100000 in
theorem Rframes_any {w : World} {v : Value} {rs : List (List UInt8)} (hv : RBs w v rs) (hz : ∀ r ∈ rs, r.length ≤ maxLen) (hn : rs.length ≤ 1000) :
    Calls Try.prog 73 #[v] w (RFs w rs) := by
  obtain ⟨va, vc, rfl⟩ := hv.form
  have HV := hide9 hv
  clear hv
  go_enter Try.func73, Try.ntmps73
  go_wp2
  go_loopw [4, 5] (fun x i wr => ∃ (j : Nat) (xv : Value) (L : List UInt8), j ≤ rs.length ∧ i = .int .i64 j ∧ x = xv ∧ Hid (L = Jn.frames (rs.take j)) ∧ Hid (Jn.All (rs.take j)) ∧ OwnsBytes wr w.heap.size xv L ∧ Below w.heap.size w wr) (fun _ i _ => rs.length - (intOf i).toNat)
  case atStart => exact ⟨0, _, [], Nat.zero_le _, rfl, rfl, (by simp [Jn.frames] : [] = Jn.frames (rs.take 0)), (fun r hr => by simp at hr : Jn.All (rs.take 0)), OwnsBytes.nil _ _, Below.refl _ _⟩
  case round =>
    obtain ⟨j, xv, L, hj, rfl, rfl, HL, HA, hO, hB⟩ := hrel
    by_cases hlt : j < rs.length
    · obtain ⟨-, hc1, b1, o1, rfl, x1, hx1, hr1⟩ := (HV.out.below hB).at (List.getElem?_eq_getElem hlt)
      have hz9 := hz _ (List.getElem_mem hlt)
      have HM := hide9 (List.getElem_mem hlt)
      have HF : Hid (Jn.frames (rs.take (j + 1)) = Jn.frames (rs.take j) ++ Jn.frame rs[j]) := frames_take rs j hlt
      have HA2 := hide9 (all_take rs j hlt HA.out)
      have hLl : L.length ≤ 16392000 := by
        have := frames_most _ HA.out
        rw [← HL.out, List.length_take] at this
        have h2 : 16392 * min j rs.length ≤ 16392 * 1000 := Nat.mul_le_mul_left _ (by omega)
        omega
      generalize rs[j] = r at *
      obtain ⟨ya, yc, rfl⟩ := hr1.form
      obtain ⟨xa, xc, rfl⟩ := hO.form
      have HO := hide9 hO
      have HB := hide9 hB
      by_cases hrec : Jn.isRec r
      · have C1 := RFrame_yes hr1 hrec
        have hr2 := hrec.2
        have HR := hide9 hrec
        clear hr1 hO hB hz hrec
        go_wp2_with (first
          | (go_at_call 31; refine C1.mono ?_; rintro e w1 ⟨a1, c1, rfl, ho1, hB1⟩; clear C1)
          | (refine wpList_append_B rfl (.tmp 24) (.tmp 25) rfl w.heap.size (Nat.le_trans HB.out.size hB1.size) _ _ rfl (HO.out.low9 hB1) _ _ rfl ho1.reads (by rw [Jn.frame_length]; omega) ?_; intro L2 a2 c2 w2 H2 ho2 hB2))
        have HE : Hid (L2 = Jn.frames (rs.take (j + 1))) := by
          show L2 = _
          rw [H2.out, HF.out, HL.out]
        exact ⟨⟨j + 1, _, L2, by omega, by go_num, rfl, HE, HA2.out HR.out, ho2, (bel HB.out hB1).trans hB2⟩, by simp [intOf]; omega⟩
      · have C1 := RFrame_no hr1 hz9 hrec
        have HN : Hid (¬ Jn.All rs) := fun h => hrec (h r HM.out)
        clear hr1 hO hB hz hrec
        go_wp2_with (go_at_call 31; refine C1.mono ?_; rintro e w1 ⟨rfl, he⟩; replace he := he.symm; subst he; clear C1)
        go_ret2
        exact ⟨HB.out, .inr ⟨HN.out, rfl⟩⟩
    · have hjl : rs.take j = rs := List.take_of_length_le (by omega)
      rw [hjl] at HL HA
      obtain ⟨xa, xc, rfl⟩ := hO.form
      have HO := hide9 hO
      have HB := hide9 hB
      clear hO hB hjl
      go_wp2
      go_ret2
      exact ⟨HB.out, .inl ⟨HA.out, L, _, _, HL, rfl, HO.out⟩⟩
end Go.Proofs.Ytcjbceidgaieaaa
