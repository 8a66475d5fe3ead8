/- The contracts of the reference's plain, mark and Mark. -/
import Derived.Test.YtoahjdpkhnkfiaaDoorPMark2
import Derived.Test.YtoahjdpkhnkfiaaDoorPSplit
import Derived.Test.YtoahjdpkhnkfiaaDoorUROne
import Derived.RegionTactic
import Derived.Test.YtoahjdpkhnkfiaaDoorPForm
namespace Go.Proofs.YtoahjdpkhnkfiaaDoor
open Go.RowKit
set_option maxHeartbeats 1000000 in
theorem Rplain_n (n : Int) (w : World) :
    Calls Tryd.prog 32 #[.int .u8 n] w fun e w' => e = .returned (.bool (Pct.plainN n)) ∧ w' = w := by
  cases hl : letN n
  · cases hd : digN n
    · by_cases h1 : n = 45
      · subst h1
        go_enter Tryd.func32, Tryd.ntmps32
        go_wp2_with (first
          | (go_at_call 48; refine (RIsLetter_n _ _).mono ?_; rintro e w1 ⟨rfl, rfl⟩; rw [hl])
          | (go_at_call 49; refine (RIsDigit_n _ _).mono ?_; rintro e w1 ⟨rfl, rfl⟩; rw [hd]))
        go_ret
        exact ⟨rfl, rfl⟩
      by_cases h2 : n = 46
      · subst h2
        go_enter Tryd.func32, Tryd.ntmps32
        go_wp2_with (first
          | (go_at_call 48; refine (RIsLetter_n _ _).mono ?_; rintro e w1 ⟨rfl, rfl⟩; rw [hl])
          | (go_at_call 49; refine (RIsDigit_n _ _).mono ?_; rintro e w1 ⟨rfl, rfl⟩; rw [hd]))
        go_ret
        exact ⟨rfl, rfl⟩
      by_cases h3 : n = 95
      · subst h3
        go_enter Tryd.func32, Tryd.ntmps32
        go_wp2_with (first
          | (go_at_call 48; refine (RIsLetter_n _ _).mono ?_; rintro e w1 ⟨rfl, rfl⟩; rw [hl])
          | (go_at_call 49; refine (RIsDigit_n _ _).mono ?_; rintro e w1 ⟨rfl, rfl⟩; rw [hd]))
        go_ret
        exact ⟨rfl, rfl⟩
      have hp : Pct.plainN n = decide (n = 126) := by
        unfold Pct.plainN
        have e1 : decide ((65 ≤ n ∧ n ≤ 90) ∨ (97 ≤ n ∧ n ≤ 122)) = false := hl
        have e2 : decide (48 ≤ n ∧ n ≤ 57) = false := hd
        rw [e1, e2]
        simp [h1, h2, h3]
      rw [hp]
      by_cases h4 : n = 126
      · subst h4
        go_enter Tryd.func32, Tryd.ntmps32
        go_wp2_with (first
          | (go_at_call 48; refine (RIsLetter_n _ _).mono ?_; rintro e w1 ⟨rfl, rfl⟩; rw [hl])
          | (go_at_call 49; refine (RIsDigit_n _ _).mono ?_; rintro e w1 ⟨rfl, rfl⟩; rw [hd]))
        go_ret
        exact ⟨rfl, rfl⟩
      · have q1 := beq_eq_false_iff_ne.2 h1
        have q2 := beq_eq_false_iff_ne.2 h2
        have q3 := beq_eq_false_iff_ne.2 h3
        have q4 := beq_eq_false_iff_ne.2 h4
        rw [decide_eq_false h4]
        clear h1 h2 h3 h4 hp
        go_enter Tryd.func32, Tryd.ntmps32
        go_wp2_with (first
          | (go_at_call 48; refine (RIsLetter_n _ _).mono ?_; rintro e w1 ⟨rfl, rfl⟩; rw [hl])
          | (go_at_call 49; refine (RIsDigit_n _ _).mono ?_; rintro e w1 ⟨rfl, rfl⟩; rw [hd]))
        go_ret
        exact ⟨rfl, rfl⟩
    · have hp : Pct.plainN n = true := by
        unfold Pct.plainN
        have e2 : decide (48 ≤ n ∧ n ≤ 57) = true := hd
        rw [e2]; simp
      rw [hp]
      clear hp
      go_enter Tryd.func32, Tryd.ntmps32
      go_wp2_with (first
        | (go_at_call 48; refine (RIsLetter_n _ _).mono ?_; rintro e w1 ⟨rfl, rfl⟩; rw [hl])
        | (go_at_call 49; refine (RIsDigit_n _ _).mono ?_; rintro e w1 ⟨rfl, rfl⟩; rw [hd]))
      go_ret
      exact ⟨rfl, rfl⟩
  · have hp : Pct.plainN n = true := by
      unfold Pct.plainN
      have e2 : decide ((65 ≤ n ∧ n ≤ 90) ∨ (97 ≤ n ∧ n ≤ 122)) = true := hl
      rw [e2]; simp
    rw [hp]
    clear hp
    go_enter Tryd.func32, Tryd.ntmps32
    go_wp2_with (go_at_call 48; refine (RIsLetter_n _ _).mono ?_; rintro e w1 ⟨rfl, rfl⟩; rw [hl])
    go_ret
    exact ⟨rfl, rfl⟩
theorem conv_two (W : World) (n : Nat) (a b : UInt8) (hn : n = W.heap.size) : (convert 54 9 (.slice (some ⟨n, 0, none⟩) 2 2)).run Tryd.prog (W.alloc (.cells #[.int .u8 a.toNat, .int .u8 b.toNat] 5)) = .ok (.string (str [a, b])) (W.alloc (.cells #[.int .u8 a.toNat, .int .u8 b.toNat] 5)) := by
  subst hn
  exact conv_owned (B := W.heap.size) (owns_new W _ [a, b] 2 rfl rfl (by decide))
theorem conv_two_drew (W : World) (n : Nat) (a b : UInt8) (hn : n = W.heap.size) : (convert 54 9 (.slice (some ⟨n, 0, none⟩) 2 2)).run Tryd.prog (W.alloc (.cells #[.int .u8 a.toNat, .int .u8 b.toNat] 5)).drew = .ok (.string (str [a, b])) (W.alloc (.cells #[.int .u8 a.toNat, .int .u8 b.toNat] 5)).drew := by
  subst hn
  exact conv_owned (B := W.heap.size) (World.ownsRow.drew (owns_new W _ [a, b] 2 rfl rfl (by decide)))
set_option maxHeartbeats 2000000 in
set_option maxRecDepth 100000 in
theorem Rmark_any (c : UInt8) (w : World) :
    Calls Tryd.prog 33 #[.int .u8 c.toNat] w fun e w' => e = .returned (.string (str (Pct.mk c))) ∧ Below w.heap.size w w' := by
  have hc := byte_in c
  have hc2 := hc.2
  have d1 : (c.toNat : Int).tdiv 16 = ((c.toNat / 16 : Nat) : Int) := by rw [Int.tdiv_eq_ediv_of_nonneg (by omega)]; omega
  have m1 : (c.toNat : Int).tmod 16 = ((c.toNat % 16 : Nat) : Int) := by rw [Int.tmod_eq_emod_of_nonneg (by omega)]; omega
  have l1 : c.toNat / 16 < lit16.size := by show c.toNat / 16 < 16; omega
  have l2 : c.toNat % 16 < lit16.size := by show c.toNat % 16 < 16; omega
  have i1 : (c.toNat : Int) / 16 < 16 := by omega
  have i2 : (c.toNat : Int) % 16 < 16 := by omega
  have i3 : 0 ≤ (c.toNat : Int) / 16 := by omega
  have i4 : 0 ≤ (c.toNat : Int) % 16 := by omega
  have hcv := conv_two
  have hcd := conv_two_drew
  have hsm : ∀ a b : UInt8, (str [a, b]).size = 2 := fun _ _ => rfl
  have hs37 : (⟨#[37]⟩ : ByteArray).size = 1 := rfl
  go_enter Tryd.func33, Tryd.ntmps33
  go_wp2
  go_region
  go_wp2
  go_ret
  refine ⟨?_, by repeat (first | exact Below.refl _ _ | apply Below.drew | exact (Below.refl _ w).alloc (Nat.le_refl _) _)⟩
  have e : ∀ a b : UInt8, (⟨#[37]⟩ : ByteArray) ++ str [a, b] = str [37, a, b] := fun a b => str_add [37] [a, b]
  have e1 : lit16[c.toNat / 16] = Pct.hexU (c.toNat / 16) := UInt8.toNat_inj.1 (lit_at _ l1)
  have e2 : lit16[c.toNat % 16] = Pct.hexU (c.toNat % 16) := UInt8.toNat_inj.1 (lit_at _ l2)
  show Ending.returned (.string ((⟨#[37]⟩ : ByteArray) ++ str [lit16[c.toNat / 16], lit16[c.toNat % 16]])) = _
  rw [e, e1, e2]
  rfl
end Go.Proofs.YtoahjdpkhnkfiaaDoor
