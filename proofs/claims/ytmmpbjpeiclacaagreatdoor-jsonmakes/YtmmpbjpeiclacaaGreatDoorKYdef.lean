/- Texts laid as one. -/
import Derived.Test.YtmmpbjpeiclacaaGreatDoorKYbc
import Derived.Test.YtmmpbjpeiclacaaGreatDoorKGround
import Derived.Deep.RegionWith
import Derived.Deep.RegionHeldLaw
import Derived.WalkMore
/- Contracts of the parser's part, takes, goesOn, word, number. -/
set_option linter.unusedVariables false
set_option linter.unusedSimpArgs false
namespace Go.Proofs.YtmmpbjpeiclacaaGreatDoor
open Go.RowKit
open Jsn (skip)
theorem part_ok {b n : Nat} {s l r : List UInt8} {c : UInt8} {w : World} (h : Ps b s l n w) (hk : skip l = c :: r) :
    Calls Tryz.prog 82 #[.pointer (some ⟨b, 0, none⟩)] w fun e w' => e = .returned (.int .u8 c.toNat) ∧ Ps b s (c :: r) n w' ∧ Kept b w w' := by
  have hS := skip_any h
  rw [hk] at hS
  go_enter Tryz.func82, Tryz.ntmps82
  go_wp2_with (first
    | (go_at_call 65; refine hS.mono ?_; rintro e w1 ⟨rfl, hP1, hK1⟩)
    | (go_at_call 100; refine (peek_ok hP1).mono ?_; rintro e w2 ⟨rfl, hP2, hK2⟩))
  go_ret
  exact ⟨rfl, hP2, hK1.trans hK2⟩
theorem part_end {b n : Nat} {s l : List UInt8} {w : World} (h : Ps b s l n w) (hk : skip l = []) :
    Calls Tryz.prog 82 #[.pointer (some ⟨b, 0, none⟩)] w fun e w' => e = boom s 4 0 ∧ Kept b w w' := by
  have hS := skip_any h
  rw [hk] at hS
  go_enter Tryz.func82, Tryz.ntmps82
  go_wp2_with (first
    | (go_at_call 65; refine hS.mono ?_; rintro e w1 ⟨rfl, hP1, hK1⟩)
    | (go_at_call 100; refine (peek_end hP1).mono ?_; rintro e w2 ⟨rfl, hK2⟩))
  exact ⟨rfl, rfl, hK1.trans hK2⟩
theorem byte_eq_int {c d : UInt8} : ((c.toNat : Int) = (d.toNat : Int)) ↔ c = d := ⟨fun h => UInt8.toNat_inj.1 (by omega), fun h => by rw [h]⟩
set_option maxHeartbeats 400000 in
theorem takes_yes {b n : Nat} {s l r : List UInt8} {c : UInt8} {w : World} (h : Ps b s l n w) (hk : Jsn.takes c l = .ok true r) :
    Calls Tryz.prog 120 #[.pointer (some ⟨b, 0, none⟩), .int .u8 c.toNat] w fun e w' => e = .returned (.bool true) ∧ Ps b s r n w' ∧ Kept b w w' := by
  have hk2 := (Jsn.takes_true hk).1
  have hq : ((c.toNat : Int) == (c.toNat : Int)) = true := by simp
  go_enter Tryz.func120, Tryz.ntmps120
  go_wp2_with (first
    | (go_at_call 82; refine (part_ok h hk2).mono ?_; rintro e w1 ⟨rfl, hP1, hK1⟩; obtain ⟨p, hp, c1⟩ := hP1.c1; have f1 := hP1.free 1; have hlen := hP1.len; simp only [List.length_cons] at hp))
  go_ret
  exact ⟨rfl, hP1.tail p hp, hK1.trans (Kept.set _ _ _ _)⟩
set_option maxHeartbeats 400000 in
theorem takes_no {b n : Nat} {s l r : List UInt8} {c : UInt8} {w : World} (h : Ps b s l n w) (hk : Jsn.takes c l = .ok false r) :
    Calls Tryz.prog 120 #[.pointer (some ⟨b, 0, none⟩), .int .u8 c.toNat] w fun e w' => e = .returned (.bool false) ∧ Ps b s r n w' ∧ Kept b w w' := by
  obtain ⟨hk2, x, t, rfl, hx⟩ := Jsn.takes_false hk
  have hq : ((x.toNat : Int) == (c.toNat : Int)) = false := beq_eq_false_iff_ne.2 fun e => hx (byte_eq_int.1 e)
  go_enter Tryz.func120, Tryz.ntmps120
  go_wp2_with (first
    | (go_at_call 82; refine (part_ok h hk2).mono ?_; rintro e w1 ⟨rfl, hP1, hK1⟩))
  go_ret
  exact ⟨rfl, hP1, hK1⟩
theorem takes_end {b n : Nat} {s l : List UInt8} {c : UInt8} {w : World} (h : Ps b s l n w) (hk : skip l = []) :
    Calls Tryz.prog 120 #[.pointer (some ⟨b, 0, none⟩), .int .u8 c.toNat] w fun e w' => e = boom s 4 0 ∧ Kept b w w' := by
  go_enter Tryz.func120, Tryz.ntmps120
  go_wp2_with (first
    | (go_at_call 82; refine (part_end h hk).mono ?_; rintro e w1 ⟨rfl, hK1⟩))
  exact ⟨rfl, rfl, hK1⟩
theorem takes_err {c : UInt8} {l : List UInt8} {y : Int} {k : Nat} (h : Jsn.takes c l = .err y k) : skip l = [] ∧ y = 4 ∧ k = 0 := by
  unfold Jsn.takes at h
  split at h
  · rename_i e
    cases h
    exact ⟨e, rfl, rfl⟩
  · split at h <;> cases h
/-- What takes answers. -/
theorem takes_any {b n : Nat} {s l : List UInt8} {c : UInt8} {w : World} (h : Ps b s l n w) :
    Calls Tryz.prog 120 #[.pointer (some ⟨b, 0, none⟩), .int .u8 c.toNat] w fun e w' => Kept b w w' ∧ Ans (Jsn.takes c l) (fun is r => e = .returned (.bool is) ∧ Ps b s r n w') (fun y k => e = boom s y k) := by
  cases ht : Jsn.takes c l with
  | err y k =>
    obtain ⟨h1, rfl, rfl⟩ := takes_err ht
    exact (takes_end h h1).mono fun e w' ⟨h1, h2⟩ => ⟨h2, h1⟩
  | ok is r =>
    cases is with
    | true => exact (takes_yes h ht).mono fun e w' ⟨h1, h2, h3⟩ => ⟨h3, h1, h2⟩
    | false => exact (takes_no h ht).mono fun e w' ⟨h1, h2, h3⟩ => ⟨h3, h1, h2⟩
end Go.Proofs.YtmmpbjpeiclacaaGreatDoor
/- Contracts of the parser's goesOn, word, number. -/
set_option linter.unusedVariables false
set_option linter.unusedSimpArgs false
namespace Go.Proofs.YtmmpbjpeiclacaaGreatDoor
open Go.RowKit
open Jsn (skip)
theorem goesOn_any {b n : Nat} {s l : List UInt8} {c : UInt8} {w : World} (h : Ps b s l n w) :
    Calls Tryz.prog 121 #[.pointer (some ⟨b, 0, none⟩), .int .u8 c.toNat] w fun e w' => Kept b w w' ∧ Ans (Jsn.goesOn c l) (fun is r => e = .returned (.bool is) ∧ Ps b s r n w') (fun y k => e = boom s y k) := by
  have hX : Jsn.goesOn c l = (Jsn.takes c l).bind fun is r => if is = true then .ok false r else (Jsn.takes 44 r).bind fun is z => if is = true then .ok true z else .err 3 z.length := rfl
  cases ht : Jsn.takes c l with
  | err y k =>
    obtain ⟨h1, rfl, rfl⟩ := takes_err ht
    have hX2 : Jsn.goesOn c l = .err 4 0 := by rw [hX, ht]; rfl
    rw [hX2]
    clear hX hX2
    have hT := takes_end (c := c) h h1
    go_enter Tryz.func121, Tryz.ntmps121
    go_wp2_with (first
      | (go_at_call 120; refine hT.mono ?_; rintro e w1 ⟨rfl, hK1⟩))
    exact ⟨rfl, hK1, rfl⟩
  | ok is r =>
    rw [ht] at hX
    cases is with
    | true =>
      have hX2 : Jsn.goesOn c l = .ok false r := by rw [hX]; rfl
      rw [hX2]
      clear hX hX2
      have hT := takes_yes h ht
      go_enter Tryz.func121, Tryz.ntmps121
      go_wp2_with (first
        | (go_at_call 120; refine hT.mono ?_; rintro e w1 ⟨rfl, hP1, hK1⟩))
      go_ret
      exact ⟨hK1, rfl, hP1⟩
    | false =>
      have hT := takes_no h ht
      cases ht2 : Jsn.takes 44 r with
      | err y k =>
        obtain ⟨h1, rfl, rfl⟩ := takes_err ht2
        have hX2 : Jsn.goesOn c l = .err 4 0 := by rw [hX]; show (Jsn.takes 44 r).bind _ = _; rw [ht2]; rfl
        rw [hX2]
        clear hX hX2
        go_enter Tryz.func121, Tryz.ntmps121
        go_wp2_with (first
          | (go_at_call_of 120 (Value.int .u8 c.toNat); refine hT.mono ?_; rintro e w1 ⟨rfl, hP1, hK1⟩; clear hT)
          | (go_at_call 120; refine (takes_end (c := 44) hP1 h1).mono ?_; rintro e w2 ⟨rfl, hK2⟩))
        exact ⟨rfl, hK1.trans hK2, rfl⟩
      | ok is2 z =>
        cases is2 with
        | true =>
          have hX2 : Jsn.goesOn c l = .ok true z := by rw [hX]; show (Jsn.takes 44 r).bind _ = _; rw [ht2]; rfl
          rw [hX2]
          clear hX hX2
          go_enter Tryz.func121, Tryz.ntmps121
          go_wp2_with (first
            | (go_at_call_of 120 (Value.int .u8 c.toNat); refine hT.mono ?_; rintro e w1 ⟨rfl, hP1, hK1⟩; clear hT)
            | (go_at_call 120; refine (takes_yes (c := 44) hP1 ht2).mono ?_; rintro e w2 ⟨rfl, hP2, hK2⟩))
          go_ret
          exact ⟨hK1.trans hK2, rfl, hP2⟩
        | false =>
          have hX2 : Jsn.goesOn c l = .err 3 z.length := by rw [hX]; show (Jsn.takes 44 r).bind _ = _; rw [ht2]; rfl
          rw [hX2]
          clear hX hX2
          go_enter Tryz.func121, Tryz.ntmps121
          go_wp2_with (first
            | (go_at_call_of 120 (Value.int .u8 c.toNat); refine hT.mono ?_; rintro e w1 ⟨rfl, hP1, hK1⟩; clear hT)
            | (go_at_call 120; refine (takes_no (c := 44) hP1 ht2).mono ?_; rintro e w2 ⟨rfl, hP2, hK2⟩; obtain ⟨p, hp, c1⟩ := hP2.c1; obtain rfl : p = s.length - z.length := by omega))
          exact ⟨rfl, hK1.trans hK2, rfl⟩
set_option maxHeartbeats 1000000 in
theorem number_p {b n : Nat} {s l : List UInt8} {w : World} (h : Ps b s l n w) :
    Calls Tryz.prog 86 #[.pointer (some ⟨b, 0, none⟩)] w fun e w' => Kept b w w' ∧ Ans (Jsn.numV l) (fun t r => e = .returned (.string (str t)) ∧ Ps b s r n w') (fun y k => e = boom s y k) := by
  obtain ⟨p, hp, c1⟩ := h.c1
  have c0 := h.c0
  have f1 := h.free 1
  have hz := str_size s
  have hzl := str_size l
  have hlen := h.len
  have hx := suf_from h.suf hp
  have b1 : (0 : Int) ≤ (p : Int) := by omega
  have b2 : (p : Int) ≤ (s.length : Int) := by omega
  have hle := h.le
  have hN := fun w => number_any l w (by omega)
  have hsuf : (Jsn.numR l).1 <:+ l := by obtain ⟨q, hq⟩ := Jsn.numR_left l; exact ⟨q, hq.symm⟩
  have hl2 := hsuf.length_le
  unfold Jsn.numV
  generalize Jsn.numR l = q at *
  obtain ⟨z, b0⟩ := q
  dsimp only at hN hsuf hl2 ⊢
  cases b0 with
  | true =>
    rw [if_pos rfl]
    have hcut : (str l).extract 0 (l.length - z.length) = str (l.take (l.length - z.length)) := str_to _ _
    have e1 : (l.length : Int) - (z.length : Int) = ((l.length - z.length : Nat) : Int) := by omega
    rw [e1] at hN
    go_enter Tryz.func86, Tryz.ntmps86
    go_wp2
    go_region
    go_wp2_with (first
      | (go_at_call 91; refine (hN _).mono ?_; rintro e w1 ⟨rfl, hw⟩; rw [hw]; clear hw))
    go_ret
    exact ⟨(Kept.refl _ _).drew.trans (Kept.set _ _ _ _), rfl, h.drew.setAt (p + (l.length - z.length)) hsuf (by omega)⟩
  | false =>
    rw [if_neg (by decide)]
    by_cases hz0 : z = []
    · subst hz0
      rw [if_pos rfl]
      go_enter Tryz.func86, Tryz.ntmps86
      go_wp2
      go_region
      go_wp2_with (first
        | (go_at_call 91; refine (hN _).mono ?_; rintro e w1 ⟨rfl, hw⟩; rw [hw]; clear hw))
      exact ⟨rfl, (Kept.refl _ _).drew, rfl⟩
    · rw [if_neg hz0]
      have hz1 : 0 < z.length := List.length_pos_iff.2 hz0
      go_enter Tryz.func86, Tryz.ntmps86
      go_wp2
      go_region
      go_wp2_with (first
        | (go_at_call 91; refine (hN _).mono ?_; rintro e w1 ⟨rfl, hw⟩; rw [hw]; clear hw))
      obtain rfl : p = s.length - l.length := by omega
      exact ⟨rfl, (Kept.refl _ _).drew, rfl⟩
end Go.Proofs.YtmmpbjpeiclacaaGreatDoor
/- Contracts of the parser's word and four. -/
set_option linter.unusedVariables false
set_option linter.unusedSimpArgs false
namespace Go.Proofs.YtmmpbjpeiclacaaGreatDoor
open Go.RowKit
theorem takeH {md : Region.Mode} {ops : Array Oper} {Q : Exit → Act → World → Prop} {S : World → Prop} {fuel : Nat} {listed : Array Bool} {a : Act} {w : World} (i d : Nat) (v : Value) {oi : Oper} (hi : ops[i]? = some oi) (hd : oi.dst = some d)
    (hs : Region.noSelect ops = true) (hf : Region.free md ops listed i = true) (hr : (Region.ready md ops listed).contains i = true)
    (hQ : ∀ c a w, Q (.panic c) (a.put (some d) v) w → Q (.panic c) a w) (hy : YieldsIf Tryz.prog ops S oi v a) (hS : S w)
    (h : wpAnyH Tryz.prog md ops Q S fuel (listed.setIfInBounds i true) (a.put (some d) v) w) : wpAnyH Tryz.prog md ops Q S (fuel + 1) listed a w :=
  wpAnyH_take hi hs hf hr (by rw [hd]; exact hQ) hy hS (by rw [hd]; exact h)
theorem wordR_drop {m : Nat} {wd l : List UInt8} {k : Nat} (hk : k < wd.length) : Jsn.wordR m (wd.drop k) l = (Jsn.mustR m wd[k] l).bind fun _ r => Jsn.wordR m (wd.drop (k + 1)) r := by
  rw [List.drop_eq_getElem_cons hk]
  rfl
theorem run_index_str (l : List UInt8) (k : Nat) (hk : k < l.length) (W : World) : (Instr.index 9 (.string (str l)) (.int .i64 (k : Int))).run Tryz.prog W = .ok (.int .u8 l[k].toNat) W := by
  have h1 : (str l).size = l.length := str_size l
  have h2 : k < (str l).size := by rw [h1]; exact hk
  simp [go_sem, Tryz.underlying9, h2]
  rfl
set_option maxHeartbeats 1000000 in
theorem word_any {b n : Nat} {s l wd : List UInt8} {w : World} (h : Ps b s l n w) (hw : wd.length ≤ 100) :
    Calls Tryz.prog 85 #[.pointer (some ⟨b, 0, none⟩), .string (str wd)] w fun e w' => Kept b w w' ∧ Ans (Jsn.wordR l.length wd l) (fun _ r => e = .returned (.string (str wd)) ∧ Ps b s r n w') (fun y k => e = boom s y k) := by
  obtain ⟨p, hp, c1⟩ := h.c1
  have hlen := h.len
  have hz := str_size wd
  have hpb : boom s 3 l.length = .panicked [{ v := .iface 41 (.agg #[.int .i64 3, .int .i64 (p : Int)]), recovered := false }] := by
    obtain rfl : p = s.length - l.length := by omega
    rfl
  replace hpb := hpb.symm
  generalize hX : Jsn.wordR l.length wd l = X
  have HX : Hid (Jsn.wordR l.length wd l = X) := hX
  clear hX
  go_enter Tryz.func85, Tryz.ntmps85
  go_wp2
  go_loopw [13] (fun i wr => ∃ (k : Nat) (z : List UInt8), i = .int .i64 k ∧ k ≤ wd.length ∧ Ps b s z n wr ∧ Kept b w wr ∧ Hid (Jsn.wordR l.length (wd.drop k) z = X)) (fun i _ => wd.length - (intOf i).toNat)
  case atStart => exact ⟨0, l, rfl, Nat.zero_le _, h, Kept.refl _ _, HX.out⟩
  case round =>
    obtain ⟨k, z, rfl, hk, hP, hK, HE⟩ := hrel
    by_cases hlt : k < wd.length
    · have hE := HE.out
      rw [wordR_drop hlt] at hE
      cases z with
      | nil =>
        have HY : Hid (X = .err 4 0) := hE.symm
        clear hE HE
        have hix : ∀ (W : World), (Instr.index 9 (.string (str wd)) (.int .i64 (k : Int))).run Tryz.prog W = .ok (.int .u8 wd[k].toNat) W := fun W => run_index_str wd k hlt W
        go_wp2
        refine wp_region_held_drew (S := fun _ => True) (by kernel_rfl) trivial (fun hS => ?_)
        refine takeH 0 16 (.pointer (some ⟨b, 0, none⟩)) rfl rfl (by kernel_rfl) (by kernel_rfl) (by kernel_rfl) (fun _ _ _ h => h) (Or.inl ⟨by kernel_rfl, fun W _ => by go_simp⟩) hS ?_
        simp only [Act.put, List.setIfInBounds_toArray, List.set_cons_zero, List.set_cons_succ]
        refine takeH 2 18 (.string (str wd)) rfl rfl (by kernel_rfl) (by kernel_rfl) (by kernel_rfl) (fun _ _ _ h => h) (Or.inl ⟨by kernel_rfl, fun W _ => by go_simp⟩) hS ?_
        simp only [Act.put, List.setIfInBounds_toArray, List.set_cons_zero, List.set_cons_succ]
        refine takeH 3 19 (.int .i64 (k : Int)) rfl rfl (by kernel_rfl) (by kernel_rfl) (by kernel_rfl) (fun _ _ _ h => h) (Or.inl ⟨by kernel_rfl, fun W _ => by go_simp⟩) hS ?_
        simp only [Act.put, List.setIfInBounds_toArray, List.set_cons_zero, List.set_cons_succ]
        refine takeH 4 20 (.int .u8 wd[k].toNat) rfl rfl (by kernel_rfl) (by kernel_rfl) (by kernel_rfl) (fun _ _ _ h => h) (Or.inl ⟨by kernel_rfl, fun W _ => by go_simp⟩) hS ?_
        simp only [Act.put, List.setIfInBounds_toArray, List.set_cons_zero, List.set_cons_succ]
        refine wpAnyH_ready (rs := [1]) (by kernel_rfl) (by simp) ?_
        refine AllReadyH.cons rfl (fun K hK0 => ?_) AllReadyH.nil
        go_simp
        refine (next_end hP.drew).mono ?_
        rintro e w1 ⟨rfl, hK1⟩
        exact ⟨rfl, hK.drew.trans hK1, by rw [HY.out]; rfl⟩
      | cons c r =>
        have hix : ∀ (W : World), (Instr.index 9 (.string (str wd)) (.int .i64 (k : Int))).run Tryz.prog W = .ok (.int .u8 wd[k].toNat) W := fun W => run_index_str wd k hlt W
        generalize wd[k] = x at hix hE
        by_cases hc : c = x
        · have HY : Hid (Jsn.wordR l.length (wd.drop (k + 1)) r = X) := by
            show _ = _
            rw [← hE]
            show _ = (if c = x then (.ok () r : Jsn.R Unit) else .err 3 l.length).bind _
            rw [if_pos hc]
            rfl
          subst hc
          have hne : ((c.toNat : Int) != (c.toNat : Int)) = false := by simp
          clear hE HE
          go_wp2
          go_region_with (go_at_call 104; refine (next_ok hP.drew).mono ?_; rintro e w1 ⟨rfl, hP1, hK1⟩)
          all_goals (go_wp2; go_roundw; (case rel => exact ⟨k + 1, r, by go_num, by omega, hP1, hK.drew.trans hK1, HY⟩); (case measure => simp [intOf]; omega))
        · have HY : Hid (X = .err 3 l.length) := by
            show _ = _
            rw [← hE]
            show (if c = x then (.ok () r : Jsn.R Unit) else .err 3 l.length).bind _ = _
            rw [if_neg hc]
            rfl
          have hne : ((c.toNat : Int) != (x.toNat : Int)) = true := by
            rw [bne_iff_ne]
            exact fun e => hc (byte_eq_int.1 e)
          clear hE HE
          go_wp2
          go_region_with (go_at_call 104; refine (next_ok hP.drew).mono ?_; rintro e w1 ⟨rfl, hP1, hK1⟩)
          all_goals (go_wp2; rw [HY.out]; exact ⟨rfl, hK.drew.trans hK1, hpb⟩)
    · have HY : Hid (X = .ok () z) := by
        show _ = _
        rw [← HE.out, List.drop_of_length_le (by omega)]
        rfl
      go_wp2
      go_ret
      rw [HY.out]
      exact ⟨hK, rfl, hP⟩
end Go.Proofs.YtmmpbjpeiclacaaGreatDoor
