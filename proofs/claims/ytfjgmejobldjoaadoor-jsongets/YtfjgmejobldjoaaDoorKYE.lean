/- Contracts of the parser's goesOn, word, number. -/
import Derived.Test.YtfjgmejobldjoaaDoorKYD
set_option linter.unusedVariables false
set_option linter.unusedSimpArgs false
namespace Go.Proofs.YtfjgmejobldjoaaDoor
open Go.RowKit
open Jsn (skip)
theorem goesOn_any {b n : Nat} {s l : List UInt8} {c : UInt8} {w : World} (h : Ps b s l n w) :
    Calls Tryd.prog 67 #[.pointer (some ⟨b, 0, none⟩), .int .u8 c.toNat] w fun e w' => Kept b w w' ∧ Ans (Jsn.goesOn c l) (fun is r => e = .returned (.bool is) ∧ Ps b s r n w') (fun y k => e = boom s y k) := by
  have hX : Jsn.goesOn c l = (Jsn.takes c l).bind fun is r => if is = true then .ok false r else (Jsn.takes 44 r).bind fun is z => if is = true then .ok true z else .err 3 z.length := rfl
  cases ht : Jsn.takes c l with
  | err y k =>
    obtain ⟨h1, rfl, rfl⟩ := takes_err ht
    have hX2 : Jsn.goesOn c l = .err 4 0 := by rw [hX, ht]; rfl
    rw [hX2]
    clear hX hX2
    have hT := takes_end (c := c) h h1
    go_enter Tryd.func67, Tryd.ntmps67
    go_wp2_with (first
      | (go_at_call 66; refine hT.mono ?_; rintro e w1 ⟨rfl, hK1⟩))
    exact ⟨rfl, hK1, rfl⟩
  | ok is r =>
    rw [ht] at hX
    cases is with
    | true =>
      have hX2 : Jsn.goesOn c l = .ok false r := by rw [hX]; rfl
      rw [hX2]
      clear hX hX2
      have hT := takes_yes h ht
      go_enter Tryd.func67, Tryd.ntmps67
      go_wp2_with (first
        | (go_at_call 66; refine hT.mono ?_; rintro e w1 ⟨rfl, hP1, hK1⟩))
      go_ret
      exact ⟨hK1, rfl, hP1⟩
    | false =>
      have hT := takes_no h ht
      cases ht2 : Jsn.takes 44 r with
      | err y k =>
        obtain ⟨h1, rfl, rfl⟩ := takes_err ht2
        have hX2 : Jsn.goesOn c l = .err 4 0 := by rw [hX]; show (Jsn.takes 44 r).bind _ = _; rw [ht2]; rfl
        rw [hX2]
        clear hX hX2
        go_enter Tryd.func67, Tryd.ntmps67
        go_wp2_with (first
          | (go_at_call_of 66 (Value.int .u8 c.toNat); refine hT.mono ?_; rintro e w1 ⟨rfl, hP1, hK1⟩; clear hT)
          | (go_at_call 66; refine (takes_end (c := 44) hP1 h1).mono ?_; rintro e w2 ⟨rfl, hK2⟩))
        exact ⟨rfl, hK1.trans hK2, rfl⟩
      | ok is2 z =>
        cases is2 with
        | true =>
          have hX2 : Jsn.goesOn c l = .ok true z := by rw [hX]; show (Jsn.takes 44 r).bind _ = _; rw [ht2]; rfl
          rw [hX2]
          clear hX hX2
          go_enter Tryd.func67, Tryd.ntmps67
          go_wp2_with (first
            | (go_at_call_of 66 (Value.int .u8 c.toNat); refine hT.mono ?_; rintro e w1 ⟨rfl, hP1, hK1⟩; clear hT)
            | (go_at_call 66; refine (takes_yes (c := 44) hP1 ht2).mono ?_; rintro e w2 ⟨rfl, hP2, hK2⟩))
          go_ret
          exact ⟨hK1.trans hK2, rfl, hP2⟩
        | false =>
          have hX2 : Jsn.goesOn c l = .err 3 z.length := by rw [hX]; show (Jsn.takes 44 r).bind _ = _; rw [ht2]; rfl
          rw [hX2]
          clear hX hX2
          go_enter Tryd.func67, Tryd.ntmps67
          go_wp2_with (first
            | (go_at_call_of 66 (Value.int .u8 c.toNat); refine hT.mono ?_; rintro e w1 ⟨rfl, hP1, hK1⟩; clear hT)
            | (go_at_call 66; refine (takes_no (c := 44) hP1 ht2).mono ?_; rintro e w2 ⟨rfl, hP2, hK2⟩; obtain ⟨p, hp, c1⟩ := hP2.c1; obtain rfl : p = s.length - z.length := by omega))
          exact ⟨rfl, hK1.trans hK2, rfl⟩
set_option maxHeartbeats 1000000 in
theorem number_p {b n : Nat} {s l : List UInt8} {w : World} (h : Ps b s l n w) :
    Calls Tryd.prog 38 #[.pointer (some ⟨b, 0, none⟩)] w fun e w' => Kept b w w' ∧ Ans (Jsn.numV l) (fun t r => e = .returned (.string (str t)) ∧ Ps b s r n w') (fun y k => e = boom s y k) := by
  obtain ⟨p, hp, c1⟩ := h.c1
  have c0 := h.c0
  have f1 := h.free 1
  have hz := str_size s
  have hzl := str_size l
  have hlen := h.len
  have hx := suf_from h.suf hp
  have b1 : (0 : Int) ≤ (p : Int) := by omega
  have b2 : (p : Int) ≤ (s.length : Int) := by omega
  have hle := h.le
  have hN := fun w => number_any l w (by omega)
  have hsuf : (Jsn.numR l).1 <:+ l := by obtain ⟨q, hq⟩ := Jsn.numR_left l; exact ⟨q, hq.symm⟩
  have hl2 := hsuf.length_le
  unfold Jsn.numV
  generalize Jsn.numR l = q at *
  obtain ⟨z, b0⟩ := q
  dsimp only at hN hsuf hl2 ⊢
  cases b0 with
  | true =>
    rw [if_pos rfl]
    have hcut : (str l).extract 0 (l.length - z.length) = str (l.take (l.length - z.length)) := str_to _ _
    have e1 : (l.length : Int) - (z.length : Int) = ((l.length - z.length : Nat) : Int) := by omega
    rw [e1] at hN
    go_enter Tryd.func38, Tryd.ntmps38
    go_wp2
    go_region
    go_wp2_with (first
      | (go_at_call 45; refine (hN _).mono ?_; rintro e w1 ⟨rfl, hw⟩; rw [hw]; clear hw))
    go_ret
    exact ⟨(Kept.refl _ _).drew.trans (Kept.set _ _ _ _), rfl, h.drew.setAt (p + (l.length - z.length)) hsuf (by omega)⟩
  | false =>
    rw [if_neg (by decide)]
    by_cases hz0 : z = []
    · subst hz0
      rw [if_pos rfl]
      go_enter Tryd.func38, Tryd.ntmps38
      go_wp2
      go_region
      go_wp2_with (first
        | (go_at_call 45; refine (hN _).mono ?_; rintro e w1 ⟨rfl, hw⟩; rw [hw]; clear hw))
      exact ⟨rfl, (Kept.refl _ _).drew, rfl⟩
    · rw [if_neg hz0]
      have hz1 : 0 < z.length := List.length_pos_iff.2 hz0
      go_enter Tryd.func38, Tryd.ntmps38
      go_wp2
      go_region
      go_wp2_with (first
        | (go_at_call 45; refine (hN _).mono ?_; rintro e w1 ⟨rfl, hw⟩; rw [hw]; clear hw))
      obtain rfl : p = s.length - l.length := by omega
      exact ⟨rfl, (Kept.refl _ _).drew, rfl⟩
end Go.Proofs.YtfjgmejobldjoaaDoor
