/- The contract of alive. -/
import Derived.Test.YtnnlmnjbmbflpaaJnL
import Derived.Lib.SlBytesConst
set_option linter.unusedVariables false
set_option linter.unusedSimpArgs false
namespace Go.Proofs.Ytnnlmnjbmbflpaa
open Go.RowKit
namespace Jn
def ab : List (List UInt8) := [[97, 98]]
def aa1 : Dk.D := ⟨true, 200, 0, ⟨frames ab, 10, []⟩, ⟨[], 0, []⟩, -1, false⟩
theorem ab_all : All ab := fun r hr => by
  simp [ab] at hr
  subst hr
  exact ⟨by decide, by decide⟩
theorem aa_1 : opens (Dk.new 200) = (0, Dk.new 200) := by rfl
theorem aa_2 : recs (Dk.new 200) (Dk.new 200).root = [] := by rfl
theorem aa_3 : fits (Dk.new 200) (frames []).length ab = 0 := by rfl
theorem aa_4 : (frames ([] ++ ab)).length = 10 := by rfl
theorem aa_5 : commits (Dk.new 200) ([] ++ ab) = (0, aa1) := by rfl
theorem aa_6 : (aa1.at aa1.root).now.length = 10 := by rfl
theorem aa_7 : recs aa1 aa1.root = ab := scan_all ab ab_all
theorem aa_8 : opens aa1 = (0, aa1) := by
  have h : mend aa1 aa1.root = (0, aa1) := by
    unfold mend
    rw [aa_7]
    rfl
  unfold opens
  rw [h]
  rfl
theorem aa_9 : aa1.left = 190 := by rfl
end Jn
theorem alloc2 (w : World) (o p : Obj) : Below w.heap.size w ((w.alloc o).alloc p) := bel (alloc1 w o) (alloc1 _ p)
/-- A record that was just laid. -/
theorem rx_ab (w : World) (T : Nat → Prop) (hl : ∀ k, T k → k < w.heap.size) : Rx T ((w.alloc (.cells #[.int .u8 97, .int .u8 98] 5 (2, 3))).alloc (.cells #[.slice (some ⟨w.heap.size, 0, none⟩) 2 2] 27)) (.slice (some ⟨w.heap.size + 1, 0, none⟩) 1 1) Jn.ab := by
  have h0 := RB.new w [97, 98] #[.int .u8 97, .int .u8 98] rfl 5 (2, 3) 2 rfl
  have h1 := RBs.one _ _ _ h0 27
  rw [size_alloc] at h1
  refine ⟨⟨[.slice (some ⟨w.heap.size, 0, none⟩) 2 2], fun W hW => ?_⟩, by decide, fun r hr => by simp [Jn.ab] at hr; subst hr; decide⟩
  have hk : ∀ k, w.heap.size ≤ k → k < w.heap.size + 2 → W.heap[k]? = ((w.alloc (.cells #[.int .u8 97, .int .u8 98] 5 (2, 3))).alloc (.cells #[.slice (some ⟨w.heap.size, 0, none⟩) 2 2] 27)).heap[k]? := fun k h1 h2 => hW.block k (by rw [size_alloc, size_alloc]; omega) (fun ht => by have := hl k ht; omega)
  have hb : RBx ((w.alloc (.cells #[.int .u8 97, .int .u8 98] 5 (2, 3))).alloc (.cells #[.slice (some ⟨w.heap.size, 0, none⟩) 2 2] 27)) (.slice (some ⟨w.heap.size + 1, 0, none⟩) 1 1) [.slice (some ⟨w.heap.size, 0, none⟩) 2 2] Jn.ab := by
    refine ⟨rfl, .inr ⟨w.heap.size + 1, 0, 1, rfl, Nat.le_refl _, fun j x hj => ?_⟩, fun j x l hj hl9 => ?_⟩
    · rcases j with _ | j
      · simp at hj
        subst hj
        have := box_at9 (w.alloc (.cells #[.int .u8 97, .int .u8 98] 5 (2, 3))) (.slice (some ⟨w.heap.size, 0, none⟩) 2 2) 27
        rw [size_alloc] at this
        exact this
      · simp at hj
    · rcases j with _ | j
      · simp [Jn.ab] at hj hl9
        subst hj
        subst hl9
        exact h0.below (alloc1 _ _)
      · simp at hj
  refine hb.keep (fun k e hlt => ?_) (fun x hx k e hlt => ?_)
  · cases e
    exact hk _ (Nat.le_succ _) (Nat.lt_succ_self _)
  · simp at hx
    subst hx
    cases e
    exact hk _ (Nat.le_refl _) (Nat.lt_add_of_pos_right (by decide))
set_option maxHeartbeats 4000000 in
set_option maxRecDepth 100000 in
theorem alive10_any (w : World) :
    Calls Try.prog 22 #[] w fun e w' => e = .returned (.bool true) ∧ Below w.heap.size w w' := by
  have kc := fun (w : World) (C : Array Value) (n c : Nat) => Lib.run_convert_bytes_const (P := Try.prog) w 27 5 C n c Try.underlying27 Try.underlying5
  have hN := New_yes 200 (by decide) (by decide) w
  go_enter Try.func22, Try.ntmps22
  go_wp2_with (first
    | (go_at_call 9; refine hN.mono ?_; rintro e w1 ⟨rfl, hD1, hB1⟩; have L1 := Lt.new (Below.refl _ w) hD1 hB1; have C1 := L1.opens rfl (by exact Jn.aa_1) (by exact Jn.aa_2); clear hN hD1 L1)
    | (go_at_call 23; refine C1.mono ?_; rintro e w2 ⟨T2, jb, a2, c2, rfl, hJ2, hT2, hR2⟩; have C2 := (hJ2.below (alloc2 w2 (.cells #[.int .u8 97, .int .u8 98] 5 (2, 3)) (.cells #[.slice (some ⟨w2.heap.size, 0, none⟩) 2 2] 27))).add (rx_ab w2 T2 hJ2.low) (by exact Jn.aa_3); rw [if_pos rfl] at C2; clear C1 hJ2 hT2 hR2)
    | (go_at_call 40; refine C2.mono ?_; rintro e w3 ⟨T3, rfl, hJ3, hT3⟩; have C3 := hJ3.group (by exact Jn.aa_4); have C4 := hJ3.commit (by exact Jn.aa_5); rw [if_pos rfl] at C4; dsimp only at C4; clear C2 hT3 hJ3)
    | (go_at_call 28; refine C3.mono ?_; rintro e w4 ⟨rfl, he⟩; replace he := he.symm; subst he; clear C3)
    | (go_at_call 41; refine C4.mono ?_; rintro e w5 ⟨T5, rfl, hJ5, hT5⟩; have C5 := hJ5.size rfl (by exact Jn.aa_6); have HJ5 := hide9 hJ5; clear C4 hT5 hJ5)
    | (go_at_call 35; refine C5.mono ?_; rintro e w6 ⟨rfl, hB6⟩; have HJ6 := hide9 (HJ5.out.below hB6); have C6 := HJ6.out.again rfl (by exact Jn.aa_8) (by exact Jn.aa_7); clear C5 HJ5)
    | (go_at_call 23; refine C6.mono ?_; rintro e w7 ⟨T7, jb7, a7, c7, rfl, hJ7, hT7, hR7⟩; obtain ⟨-, hc7, b9, o9, rfl, x9, hx9, hr9⟩ := hR7.rbs.at (j := 0) (l := [97, 98]) rfl; obtain ⟨ya, yc, rfl⟩ := hr9.form; have hcv : (convert 27 9 (.slice ya 2 yc)).run Try.prog w7 = .ok (.string ⟨#[97, 98]⟩) w7 := conv_RB hr9; have hab : Jn.ab.length = 1 := rfl; have hx9 : w7.cell? ⟨b9, o9, none⟩ = some (.slice ya 2 yc) := hx9; have hc7 : 1 ≤ c7 := hc7; have C7 := hJ7.left; rw [Jn.aa_9] at C7; have HB7 := hide9 hJ7.bel; clear C6 hJ7 hR7 hr9)
    | (go_at_call 34; refine C7.mono ?_; rintro e w8 ⟨rfl, hB8⟩))
  go_ret
  exact ⟨rfl, bel HB7.out hB8⟩
end Go.Proofs.Ytnnlmnjbmbflpaa
