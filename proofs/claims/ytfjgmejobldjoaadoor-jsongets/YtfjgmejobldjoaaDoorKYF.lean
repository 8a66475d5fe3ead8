/- Contracts of the parser's word and four. -/
import Derived.Test.YtfjgmejobldjoaaDoorKYE
import Derived.Test.YtfjgmejobldjoaaDoorKGround
import Derived.Deep.RegionWith
import Derived.Deep.RegionHeldLaw
import Derived.WalkMore
set_option linter.unusedVariables false
set_option linter.unusedSimpArgs false
namespace Go.Proofs.YtfjgmejobldjoaaDoor
open Go.RowKit
theorem takeH {md : Region.Mode} {ops : Array Oper} {Q : Exit → Act → World → Prop} {S : World → Prop} {fuel : Nat} {listed : Array Bool} {a : Act} {w : World} (i d : Nat) (v : Value) {oi : Oper} (hi : ops[i]? = some oi) (hd : oi.dst = some d)
    (hs : Region.noSelect ops = true) (hf : Region.free md ops listed i = true) (hr : (Region.ready md ops listed).contains i = true)
    (hQ : ∀ c a w, Q (.panic c) (a.put (some d) v) w → Q (.panic c) a w) (hy : YieldsIf Tryd.prog ops S oi v a) (hS : S w)
    (h : wpAnyH Tryd.prog md ops Q S fuel (listed.setIfInBounds i true) (a.put (some d) v) w) : wpAnyH Tryd.prog md ops Q S (fuel + 1) listed a w :=
  wpAnyH_take hi hs hf hr (by rw [hd]; exact hQ) hy hS (by rw [hd]; exact h)
theorem wordR_drop {m : Nat} {wd l : List UInt8} {k : Nat} (hk : k < wd.length) : Jsn.wordR m (wd.drop k) l = (Jsn.mustR m wd[k] l).bind fun _ r => Jsn.wordR m (wd.drop (k + 1)) r := by
  rw [List.drop_eq_getElem_cons hk]
  rfl
theorem run_index_str (l : List UInt8) (k : Nat) (hk : k < l.length) (W : World) : (Instr.index 9 (.string (str l)) (.int .i64 (k : Int))).run Tryd.prog W = .ok (.int .u8 l[k].toNat) W := by
  have h1 : (str l).size = l.length := str_size l
  have h2 : k < (str l).size := by rw [h1]; exact hk
  simp [go_sem, Tryd.underlying9, h2]
  rfl
set_option maxHeartbeats 1000000 in
theorem word_any {b n : Nat} {s l wd : List UInt8} {w : World} (h : Ps b s l n w) (hw : wd.length ≤ 100) :
    Calls Tryd.prog 37 #[.pointer (some ⟨b, 0, none⟩), .string (str wd)] w fun e w' => Kept b w w' ∧ Ans (Jsn.wordR l.length wd l) (fun _ r => e = .returned (.string (str wd)) ∧ Ps b s r n w') (fun y k => e = boom s y k) := by
  obtain ⟨p, hp, c1⟩ := h.c1
  have hlen := h.len
  have hz := str_size wd
  have hpb : boom s 3 l.length = .panicked [{ v := .iface 36 (.agg #[.int .i64 3, .int .i64 (p : Int)]), recovered := false }] := by
    obtain rfl : p = s.length - l.length := by omega
    rfl
  replace hpb := hpb.symm
  generalize hX : Jsn.wordR l.length wd l = X
  have HX : Hid (Jsn.wordR l.length wd l = X) := hX
  clear hX
  go_enter Tryd.func37, Tryd.ntmps37
  go_wp2
  go_loopw [13] (fun i wr => ∃ (k : Nat) (z : List UInt8), i = .int .i64 k ∧ k ≤ wd.length ∧ Ps b s z n wr ∧ Kept b w wr ∧ Hid (Jsn.wordR l.length (wd.drop k) z = X)) (fun i _ => wd.length - (intOf i).toNat)
  case atStart => exact ⟨0, l, rfl, Nat.zero_le _, h, Kept.refl _ _, HX.out⟩
  case round =>
    obtain ⟨k, z, rfl, hk, hP, hK, HE⟩ := hrel
    by_cases hlt : k < wd.length
    · have hE := HE.out
      rw [wordR_drop hlt] at hE
      cases z with
      | nil =>
        have HY : Hid (X = .err 4 0) := hE.symm
        clear hE HE
        have hix : ∀ (W : World), (Instr.index 9 (.string (str wd)) (.int .i64 (k : Int))).run Tryd.prog W = .ok (.int .u8 wd[k].toNat) W := fun W => run_index_str wd k hlt W
        go_wp2
        refine wp_region_held_drew (S := fun _ => True) (by kernel_rfl) trivial (fun hS => ?_)
        refine takeH 0 16 (.pointer (some ⟨b, 0, none⟩)) rfl rfl (by kernel_rfl) (by kernel_rfl) (by kernel_rfl) (fun _ _ _ h => h) (Or.inl ⟨by kernel_rfl, fun W _ => by go_simp⟩) hS ?_
        simp only [Act.put, List.setIfInBounds_toArray, List.set_cons_zero, List.set_cons_succ]
        refine takeH 2 18 (.string (str wd)) rfl rfl (by kernel_rfl) (by kernel_rfl) (by kernel_rfl) (fun _ _ _ h => h) (Or.inl ⟨by kernel_rfl, fun W _ => by go_simp⟩) hS ?_
        simp only [Act.put, List.setIfInBounds_toArray, List.set_cons_zero, List.set_cons_succ]
        refine takeH 3 19 (.int .i64 (k : Int)) rfl rfl (by kernel_rfl) (by kernel_rfl) (by kernel_rfl) (fun _ _ _ h => h) (Or.inl ⟨by kernel_rfl, fun W _ => by go_simp⟩) hS ?_
        simp only [Act.put, List.setIfInBounds_toArray, List.set_cons_zero, List.set_cons_succ]
        refine takeH 4 20 (.int .u8 wd[k].toNat) rfl rfl (by kernel_rfl) (by kernel_rfl) (by kernel_rfl) (fun _ _ _ h => h) (Or.inl ⟨by kernel_rfl, fun W _ => by go_simp⟩) hS ?_
        simp only [Act.put, List.setIfInBounds_toArray, List.set_cons_zero, List.set_cons_succ]
        refine wpAnyH_ready (rs := [1]) (by kernel_rfl) (by simp) ?_
        refine AllReadyH.cons rfl (fun K hK0 => ?_) AllReadyH.nil
        go_simp
        refine (next_end hP.drew).mono ?_
        rintro e w1 ⟨rfl, hK1⟩
        exact ⟨rfl, hK.drew.trans hK1, by rw [HY.out]; rfl⟩
      | cons c r =>
        have hix : ∀ (W : World), (Instr.index 9 (.string (str wd)) (.int .i64 (k : Int))).run Tryd.prog W = .ok (.int .u8 wd[k].toNat) W := fun W => run_index_str wd k hlt W
        generalize wd[k] = x at hix hE
        by_cases hc : c = x
        · have HY : Hid (Jsn.wordR l.length (wd.drop (k + 1)) r = X) := by
            show _ = _
            rw [← hE]
            show _ = (if c = x then (.ok () r : Jsn.R Unit) else .err 3 l.length).bind _
            rw [if_pos hc]
            rfl
          subst hc
          have hne : ((c.toNat : Int) != (c.toNat : Int)) = false := by simp
          clear hE HE
          go_wp2
          go_region_with (go_at_call 53; refine (next_ok hP.drew).mono ?_; rintro e w1 ⟨rfl, hP1, hK1⟩)
          all_goals (go_wp2; go_roundw; (case rel => exact ⟨k + 1, r, by go_num, by omega, hP1, hK.drew.trans hK1, HY⟩); (case measure => simp [intOf]; omega))
        · have HY : Hid (X = .err 3 l.length) := by
            show _ = _
            rw [← hE]
            show (if c = x then (.ok () r : Jsn.R Unit) else .err 3 l.length).bind _ = _
            rw [if_neg hc]
            rfl
          have hne : ((c.toNat : Int) != (x.toNat : Int)) = true := by
            rw [bne_iff_ne]
            exact fun e => hc (byte_eq_int.1 e)
          clear hE HE
          go_wp2
          go_region_with (go_at_call 53; refine (next_ok hP.drew).mono ?_; rintro e w1 ⟨rfl, hP1, hK1⟩)
          all_goals (go_wp2; rw [HY.out]; exact ⟨rfl, hK.drew.trans hK1, hpb⟩)
    · have HY : Hid (X = .ok () z) := by
        show _ = _
        rw [← HE.out, List.drop_of_length_le (by omega)]
        rfl
      go_wp2
      go_ret
      rw [HY.out]
      exact ⟨hK, rfl, hP⟩
end Go.Proofs.YtfjgmejobldjoaaDoor
