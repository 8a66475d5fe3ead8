/- The contract of the parser's key. -/
import Derived.Test.YtfjgmejobldjoaaDoorKYM
set_option linter.unusedVariables false
set_option linter.unusedSimpArgs false
namespace Go.Proofs.YtfjgmejobldjoaaDoor
open Go.RowKit
/-- All blocks but b and g are as they were. -/
structure Kept2 (b g : Nat) (w w' : World) : Prop where
  os : w'.os = w.os
  tape : w'.tape = w.tape
  output : w'.output = w.output
  size : w.heap.size ≤ w'.heap.size
  block : ∀ k, k < w.heap.size → k ≠ b → k ≠ g → w'.heap[k]? = w.heap[k]?
theorem Kept2.refl (b g : Nat) (w : World) : Kept2 b g w w := ⟨rfl, rfl, rfl, Nat.le_refl _, fun _ _ _ _ => rfl⟩
theorem Kept2.trans {b g : Nat} {a c d : World} (h : Kept2 b g a c) (k : Kept2 b g c d) : Kept2 b g a d :=
  ⟨k.os.trans h.os, k.tape.trans h.tape, k.output.trans h.output, Nat.le_trans h.size k.size, fun i hi hb hg => (k.block i (Nat.lt_of_lt_of_le hi h.size) hb hg).trans (h.block i hi hb hg)⟩
theorem Kept.two {b : Nat} {w w' : World} (h : Kept b w w') (g : Nat) : Kept2 b g w w' := ⟨h.os, h.tape, h.output, h.size, fun k hk hb _ => h.block k hk hb⟩
theorem Kept.two' {g : Nat} {w w' : World} (h : Kept g w w') (b : Nat) : Kept2 b g w w' := ⟨h.os, h.tape, h.output, h.size, fun k hk _ hg => h.block k hk hg⟩
theorem Kept2.drew {b g : Nat} {w w' : World} (h : Kept2 b g w w') : Kept2 b g w w'.drew := ⟨h.os, h.tape, h.output, h.size, h.block⟩
/-- What is in quotes is not much longer than it was told. -/
theorem quoted_len (l : List UInt8) : ∀ t z, Jsn.quotedR l = .ok t z → t.length + 4 * z.length ≤ 4 * l.length := by
  induction hn : l.length using Nat.strongRecOn generalizing l with
  | _ n ih =>
    subst hn
    intro t z h
    cases l with
    | nil => rw [Jsn.quotedR_nil] at h; cases h
    | cons c r =>
      rw [Jsn.quotedR_cons] at h
      simp only [List.length_cons]
      split at h
      · cases h; simp; omega
      · split at h
        · cases he : Jsn.escR (r.length + 1) r with
          | err y k => rw [he] at h; cases h
          | ok x y =>
            rw [he] at h
            replace h : (Jsn.quotedR y).map (Lib.encodeRune x ++ ·) = .ok t z := h
            have hl := Jsn.esc_len he
            cases hq : Jsn.quotedR y with
            | err y k => rw [hq] at h; cases h
            | ok t' z' =>
              rw [hq] at h
              cases h
              have := ih y.length (by simp only [List.length_cons]; omega) y rfl t' z hq
              have e4 := Utf.enc_len x
              simp only [List.length_append]
              omega
        · split at h
          · cases h
          · cases hq : Jsn.quotedR r with
            | err y k => rw [hq] at h; cases h
            | ok t' z' =>
              rw [hq] at h
              cases h
              have := ih r.length (by simp) r rfl t' z hq
              simp only [List.length_cons]
              omega
set_option maxHeartbeats 1000000 in
theorem key_any {b n g m : Nat} {s l : List UInt8} {ks : List (List UInt8)} {w : World} (h : Ps b s l n w) (hS : SetAt g m ks w) (hne : g ≠ b) (hm : m ≤ 1000000) :
    Calls Tryd.prog 68 #[.pointer (some ⟨b, 0, none⟩), .map (some g)] w fun e w' => Kept2 b g w w' ∧ Ans (Jsn.keyR ks l) (fun t r => e = .returned (.string (str t)) ∧ Ps b s r n w' ∧ SetAt g (m + 1) (ks ++ [t]) w') (fun y k => e = boom s y k) := by
  have hlen := h.len
  have hle := h.le
  unfold Jsn.keyR
  cases hk : Jsn.skip l with
  | nil =>
    go_enter Tryd.func68, Tryd.ntmps68
    go_wp2_with (first
      | (go_at_call 34; refine (part_end h hk).mono ?_; rintro e w1 ⟨rfl, hK1⟩))
    exact ⟨rfl, hK1.two g, rfl⟩
  | cons c r =>
    dsimp only
    have hp := part_ok h hk
    have hrl : r.length + 1 ≤ l.length := by have := (Jsn.skip_suf l).length_le; rw [hk] at this; simpa using this
    by_cases h34 : c = 34
    · rw [if_pos h34]
      subst h34
      cases hq : Jsn.quotedR r with
      | err y k =>
        go_enter Tryd.func68, Tryd.ntmps68
        go_wp2_with (first
          | (go_at_call 34; refine hp.mono ?_; rintro e w1 ⟨rfl, hP1, hK1⟩; obtain ⟨p, hpp, c1⟩ := hP1.c1)
          | (go_at_call 36; refine (quoted_any hP1).mono ?_; rintro e w2 ⟨hK2, hA⟩; rw [hq] at hA; replace hA : e = boom s y k := hA; subst hA))
        exact ⟨rfl, (hK1.trans hK2).two g, rfl⟩
      | ok t z =>
        have htl := quoted_len r t z hq
        show Calls _ _ _ _ fun e w' => Kept2 b g w w' ∧ Ans (if t ∈ ks then .err 7 (r.length + 1) else .ok t z) _ _
        by_cases hin : t ∈ ks
        · rw [if_pos hin]
          have hd : decide (t ∉ ks) = false := by simp [hin]
          have hN := fun w hS => isNew_any g m ks t w hS (by omega) (by omega)
          simp only [hd] at hN
          clear hd
          go_enter Tryd.func68, Tryd.ntmps68
          go_wp2_with (first
            | (go_at_call 34; refine hp.mono ?_; rintro e w1 ⟨rfl, hP1, hK1⟩; obtain ⟨p, hpp, c1⟩ := hP1.c1; simp only [List.length_cons] at hpp)
            | (go_at_call 36; refine (quoted_any hP1).mono ?_; rintro e w2 ⟨hK2, hA⟩; rw [hq] at hA; obtain ⟨rfl, hP2⟩ := hA; have hS2 := hS.keep ((hK1.trans hK2).block g hS.lt hne))
            | (go_at_call 44; refine (hN _ hS2).mono ?_; rintro e w3 ⟨rfl, hS3, hK3⟩))
          obtain rfl : p = s.length - (r.length + 1) := by omega
          exact ⟨rfl, ((hK1.trans hK2).two g).trans (hK3.two' b), rfl⟩
        · rw [if_neg hin]
          have hd : decide (t ∉ ks) = true := by simp [hin]
          have hN := fun w hS => isNew_any g m ks t w hS (by omega) (by omega)
          simp only [hd] at hN
          clear hd
          have hwk : withKey ks t = ks ++ [t] := if_neg hin
          go_enter Tryd.func68, Tryd.ntmps68
          go_wp2_with (first
            | (go_at_call 34; refine hp.mono ?_; rintro e w1 ⟨rfl, hP1, hK1⟩; obtain ⟨p, hpp, c1⟩ := hP1.c1; simp only [List.length_cons] at hpp)
            | (go_at_call 36; refine (quoted_any hP1).mono ?_; rintro e w2 ⟨hK2, hA⟩; rw [hq] at hA; obtain ⟨rfl, hP2⟩ := hA; have hS2 := hS.keep ((hK1.trans hK2).block g hS.lt hne))
            | (go_at_call 44; refine (hN _ hS2).mono ?_; rintro e w3 ⟨rfl, hS3, hK3⟩))
          go_ret
          exact ⟨((hK1.trans hK2).two g).trans (hK3.two' b), rfl, ⟨(hK3.block b hP2.lt (Ne.symm hne)).trans hP2.at_, hP2.suf, hP2.len, hP2.cnt⟩, hwk ▸ hS3⟩
    · rw [if_neg h34]
      have q34 : ((c.toNat : Int) != 34) = true := by rw [bne_iff_ne]; exact fun e => h34 (byte_eq_int.1 e)
      go_enter Tryd.func68, Tryd.ntmps68
      go_wp2_with (first
        | (go_at_call 34; refine hp.mono ?_; rintro e w1 ⟨rfl, hP1, hK1⟩; obtain ⟨p, hpp, c1⟩ := hP1.c1; simp only [List.length_cons] at hpp))
      obtain rfl : p = s.length - (r.length + 1) := by omega
      exact ⟨rfl, hK1.two g, rfl⟩
end Go.Proofs.YtfjgmejobldjoaaDoor
