/- What a name is for the law TokenNames: the contract of its function literal. -/
import Derived.Test.YtagceinccibnjaaGreatDoorKTkX
import Derived.Test.YtagceinccibnjaaGreatDoorKTextR
import Derived.Test.YtagceinccibnjaaGreatDoorKAscii
set_option linter.unusedVariables false
set_option linter.unusedSimpArgs false
namespace Tk
open Asc
/-- What the law asks of a name. -/
def NameOK (n : List UInt8) : Prop := n ≠ [] ∧ n.all tn = true ∧ lower n = n ∧ Utf.isText n = true
theorem an_tn (c : UInt8) (h : an c = true) : tn c = true := by
  unfold an at h
  rw [Bool.and_eq_true] at h
  exact h.1
theorem goodN_ok (n : List UInt8) (h : goodN n) (ht : Utf.isText n = true) : NameOK n := by
  obtain ⟨⟨c, m, rfl, hc, hm⟩, hl⟩ := h
  refine ⟨by simp, ?_, hl, ht⟩
  rw [List.all_cons, hc, Bool.true_and]
  rw [List.all_eq_true] at *
  exact fun x hx => an_tn x (hm x hx)
theorem goodT_ok (n : List UInt8) (h : goodT n) (ht : Utf.isText n = true) : NameOK n := by
  obtain ⟨⟨c, m, rfl, hc⟩, hm, hl⟩ := h
  exact ⟨by simp, hm, hl, ht⟩
theorem tn_parts (c : UInt8) (h : tn c = true) : isBlank c = false ∧ c ≠ 47 ∧ c ≠ 62 := by
  unfold tn at h
  simp only [Bool.and_eq_true, bne_iff_ne, Bool.not_eq_true', ne_eq] at h
  exact ⟨h.1.1, h.1.2, h.2⟩
end Tk
namespace Go.Proofs.YtagceinccibnjaaGreatDoor
open Go.RowKit
theorem RIsBlank_y (c : UInt8) (w : World) :
    Calls Tryz.prog 25 #[.int .u8 c.toNat] w fun e w' => e = .returned (.bool (Asc.isBlank c)) ∧ w' = w := by
  have h := RIsBlank_n c.toNat w
  rw [blankN_byte] at h
  exact h
set_option maxHeartbeats 1000000 in
set_option maxRecDepth 100000 in
theorem nameFn_any (n : List UInt8) (w : World) (h : Tk.NameOK n) (hz : n.length ≤ 1000000) :
    Calls Tryz.prog 24 #[.string (str n)] w fun e w' => e = .returned (.bool true) ∧ Below w.heap.size w w' := by
  have hsz := str_size n
  obtain ⟨hn0, hn1, hn2, hn3⟩ := h
  have hne := isEmpty_no hn0
  have HA := hideQ hn1
  have hL := RLower_any (str n) w (by omega)
  rw [str_data, hn2] at hL
  have hI := fun W => RIsText_any n W (by omega)
  rw [hn3] at hI
  have q := beq_self_eq_true (str n).toList
  clear hn0 hn1 hn2 hn3
  go_enter Tryz.func24, Tryz.ntmps24
  go_wp2
  go_loopw [6] (fun i wr => ∃ k : Nat, k ≤ n.length ∧ i = .int .i64 k ∧ wr = w) (fun i _ => n.length - (intOf i).toNat)
  case atStart => exact ⟨0, Nat.zero_le _, rfl, rfl⟩
  case round =>
    obtain ⟨k, hk, rfl, rfl⟩ := hrel
    by_cases hlt : k < n.length
    · have ht := Tk.tn_parts n[k] (List.all_eq_true.1 HA.out _ (List.getElem_mem hlt))
      obtain ⟨c, hc⟩ : ∃ c, n[k] = c := ⟨_, rfl⟩
      have hat : ∀ h : k < (str n).size, (str n)[k]'h = c := fun _ => hc
      rw [hc] at ht
      clear hc
      have hB := RIsBlank_y c
      rw [ht.1] at hB
      have q1 : ((c.toNat : Int) == 47) = false := (beq_byte c 47 (by omega)).trans (beq_eq_false_iff_ne.2 ht.2.1)
      have q2 : ((c.toNat : Int) == 62) = false := (beq_byte c 62 (by omega)).trans (beq_eq_false_iff_ne.2 ht.2.2)
      clear ht
      go_wp2_with (go_at_call 25; refine (hB _).mono ?_; rintro e w1 ⟨rfl, hw⟩; rw [hw]; clear hw)
      go_roundw
      case rel => exact ⟨k + 1, by omega, by go_num, by trivial⟩
      case measure => simp [intOf]; omega
    · go_wp2_with (first
        | (go_at_call 26; refine hL.mono ?_; rintro e w1 ⟨rfl, hb1⟩)
        | (go_at_call 27; refine (hI _).mono ?_; rintro e w2 ⟨rfl, hq2⟩))
      go_ret
      exact ⟨rfl, bel hb1 (bel_quiet hq2)⟩
end Go.Proofs.YtagceinccibnjaaGreatDoor
