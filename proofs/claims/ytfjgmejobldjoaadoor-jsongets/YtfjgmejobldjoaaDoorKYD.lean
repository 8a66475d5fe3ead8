/- Contracts of the parser's part, takes, goesOn, word, number. -/
import Derived.Test.YtfjgmejobldjoaaDoorKYC
set_option linter.unusedVariables false
set_option linter.unusedSimpArgs false
namespace Go.Proofs.YtfjgmejobldjoaaDoor
open Go.RowKit
open Jsn (skip)
theorem part_ok {b n : Nat} {s l r : List UInt8} {c : UInt8} {w : World} (h : Ps b s l n w) (hk : skip l = c :: r) :
    Calls Tryd.prog 34 #[.pointer (some ⟨b, 0, none⟩)] w fun e w' => e = .returned (.int .u8 c.toNat) ∧ Ps b s (c :: r) n w' ∧ Kept b w w' := by
  have hS := skip_any h
  rw [hk] at hS
  go_enter Tryd.func34, Tryd.ntmps34
  go_wp2_with (first
    | (go_at_call 25; refine hS.mono ?_; rintro e w1 ⟨rfl, hP1, hK1⟩)
    | (go_at_call 46; refine (peek_ok hP1).mono ?_; rintro e w2 ⟨rfl, hP2, hK2⟩))
  go_ret
  exact ⟨rfl, hP2, hK1.trans hK2⟩
theorem part_end {b n : Nat} {s l : List UInt8} {w : World} (h : Ps b s l n w) (hk : skip l = []) :
    Calls Tryd.prog 34 #[.pointer (some ⟨b, 0, none⟩)] w fun e w' => e = boom s 4 0 ∧ Kept b w w' := by
  have hS := skip_any h
  rw [hk] at hS
  go_enter Tryd.func34, Tryd.ntmps34
  go_wp2_with (first
    | (go_at_call 25; refine hS.mono ?_; rintro e w1 ⟨rfl, hP1, hK1⟩)
    | (go_at_call 46; refine (peek_end hP1).mono ?_; rintro e w2 ⟨rfl, hK2⟩))
  exact ⟨rfl, rfl, hK1.trans hK2⟩
theorem byte_eq_int {c d : UInt8} : ((c.toNat : Int) = (d.toNat : Int)) ↔ c = d := ⟨fun h => UInt8.toNat_inj.1 (by omega), fun h => by rw [h]⟩
set_option maxHeartbeats 400000 in
theorem takes_yes {b n : Nat} {s l r : List UInt8} {c : UInt8} {w : World} (h : Ps b s l n w) (hk : Jsn.takes c l = .ok true r) :
    Calls Tryd.prog 66 #[.pointer (some ⟨b, 0, none⟩), .int .u8 c.toNat] w fun e w' => e = .returned (.bool true) ∧ Ps b s r n w' ∧ Kept b w w' := by
  have hk2 := (Jsn.takes_true hk).1
  have hq : ((c.toNat : Int) == (c.toNat : Int)) = true := by simp
  go_enter Tryd.func66, Tryd.ntmps66
  go_wp2_with (first
    | (go_at_call 34; refine (part_ok h hk2).mono ?_; rintro e w1 ⟨rfl, hP1, hK1⟩; obtain ⟨p, hp, c1⟩ := hP1.c1; have f1 := hP1.free 1; have hlen := hP1.len; simp only [List.length_cons] at hp))
  go_ret
  exact ⟨rfl, hP1.tail p hp, hK1.trans (Kept.set _ _ _ _)⟩
set_option maxHeartbeats 400000 in
theorem takes_no {b n : Nat} {s l r : List UInt8} {c : UInt8} {w : World} (h : Ps b s l n w) (hk : Jsn.takes c l = .ok false r) :
    Calls Tryd.prog 66 #[.pointer (some ⟨b, 0, none⟩), .int .u8 c.toNat] w fun e w' => e = .returned (.bool false) ∧ Ps b s r n w' ∧ Kept b w w' := by
  obtain ⟨hk2, x, t, rfl, hx⟩ := Jsn.takes_false hk
  have hq : ((x.toNat : Int) == (c.toNat : Int)) = false := beq_eq_false_iff_ne.2 fun e => hx (byte_eq_int.1 e)
  go_enter Tryd.func66, Tryd.ntmps66
  go_wp2_with (first
    | (go_at_call 34; refine (part_ok h hk2).mono ?_; rintro e w1 ⟨rfl, hP1, hK1⟩))
  go_ret
  exact ⟨rfl, hP1, hK1⟩
theorem takes_end {b n : Nat} {s l : List UInt8} {c : UInt8} {w : World} (h : Ps b s l n w) (hk : skip l = []) :
    Calls Tryd.prog 66 #[.pointer (some ⟨b, 0, none⟩), .int .u8 c.toNat] w fun e w' => e = boom s 4 0 ∧ Kept b w w' := by
  go_enter Tryd.func66, Tryd.ntmps66
  go_wp2_with (first
    | (go_at_call 34; refine (part_end h hk).mono ?_; rintro e w1 ⟨rfl, hK1⟩))
  exact ⟨rfl, rfl, hK1⟩
theorem takes_err {c : UInt8} {l : List UInt8} {y : Int} {k : Nat} (h : Jsn.takes c l = .err y k) : skip l = [] ∧ y = 4 ∧ k = 0 := by
  unfold Jsn.takes at h
  split at h
  · rename_i e
    cases h
    exact ⟨e, rfl, rfl⟩
  · split at h <;> cases h
/-- What takes answers. -/
theorem takes_any {b n : Nat} {s l : List UInt8} {c : UInt8} {w : World} (h : Ps b s l n w) :
    Calls Tryd.prog 66 #[.pointer (some ⟨b, 0, none⟩), .int .u8 c.toNat] w fun e w' => Kept b w w' ∧ Ans (Jsn.takes c l) (fun is r => e = .returned (.bool is) ∧ Ps b s r n w') (fun y k => e = boom s y k) := by
  cases ht : Jsn.takes c l with
  | err y k =>
    obtain ⟨h1, rfl, rfl⟩ := takes_err ht
    exact (takes_end h h1).mono fun e w' ⟨h1, h2⟩ => ⟨h2, h1⟩
  | ok is r =>
    cases is with
    | true => exact (takes_yes h ht).mono fun e w' ⟨h1, h2, h3⟩ => ⟨h3, h1, h2⟩
    | false => exact (takes_no h ht).mono fun e w' ⟨h1, h2, h3⟩ => ⟨h3, h1, h2⟩
end Go.Proofs.YtfjgmejobldjoaaDoor
