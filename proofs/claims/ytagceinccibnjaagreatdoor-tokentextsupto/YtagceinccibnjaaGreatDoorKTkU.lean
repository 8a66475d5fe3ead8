/- The contracts of token.Same and of the reference's Same. -/
import Derived.Test.YtagceinccibnjaaGreatDoorKTkE
import Derived.Deep.QuietTactic
import Derived.BigQuiet
import Derived.WalkSmall
set_option linter.unusedVariables false
set_option linter.unusedSimpArgs false
namespace Go.Proofs.YtagceinccibnjaaGreatDoor
open Go.RowKit
set_option maxHeartbeats 1000000 in
set_option maxRecDepth 100000 in
theorem EqualA_any (v u : Value) (ts us : List Pr) (w : World) (hv : ReadsPairs w v ts) (hu : ReadsPairs w u us) (hl : ts.length ≤ 1000000) (hm : us.length ≤ 1000000) :
    Calls Tryz.prog 43 #[v, u] w fun e w' => e = .returned (.bool (decide (ts = us))) ∧ ∃ n, w' = w.drewN n := by
  obtain ⟨a1, c1, rfl⟩ := hv.form
  obtain ⟨a2, c2, rfl⟩ := hu.form
  by_cases hlen : ts.length = us.length
  · have hb : ((ts.length : Int) != (us.length : Int)) = false := by simp [hlen]
    have HL : Hid (ts.length = us.length) := hlen
    have HV : Hid (ReadsPairs w (.slice a1 ts.length c1) ts) := hv
    have HU : Hid (ReadsPairs w (.slice a2 us.length c2) us) := hu
    clear hlen hv hu
    go_enter Tryz.func43, Tryz.ntmps43
    go_wp2
    go_loopw [13] (fun i wr => ∃ k m : Nat, k ≤ ts.length ∧ i = .int .i64 k ∧ Hid (ts.take k = us.take k) ∧ wr = w.drewN m) (fun i _ => ts.length - (intOf i).toNat)
    case atStart => exact ⟨0, 0, Nat.zero_le _, rfl, rfl, rfl⟩
    case round =>
      obtain ⟨k, m, hk, rfl, HE, rfl⟩ := hrel
      by_cases hlt : k < ts.length
      · have hlt2 : k < us.length := by have := HL.out; omega
        obtain ⟨p, hp⟩ : ∃ p, ts[k]? = some p := ⟨_, List.getElem?_eq_getElem hlt⟩
        obtain ⟨q, hq⟩ : ∃ q, us[k]? = some q := ⟨_, List.getElem?_eq_getElem hlt2⟩
        obtain ⟨b1, o1, rfl, hc1, hb1, g1, g2⟩ := HV.out.at hp
        obtain ⟨b2, o2, rfl, hc2, hb2, g3, g4⟩ := HU.out.at hq
        have HX : Hid (ts[k]? = some p ∧ us[k]? = some q) := ⟨hp, hq⟩
        clear hp hq
        by_cases hpq : p = q
        · subst hpq
          go_wp2
          go_quiet (fail)
          go_wp2
          go_roundw
          case rel => exact ⟨k + 1, m + nq, by omega, by go_num, by show _ = _; rw [List.take_add_one, List.take_add_one, HE.out, HX.out.1, HX.out.2], by simp⟩
          case measure => simp [intOf]; omega
        · have HN : Hid (decide (ts = us) = false) := by
            show _ = _
            rw [decide_eq_false_iff_not]
            rintro rfl
            exact hpq (Option.some.inj (HX.out.1.symm.trans HX.out.2))
          by_cases h1 : p.1 = q.1
          · have h2 : ¬ p.2 = q.2 := fun e => hpq (Prod.ext h1 e)
            have hs1 := str_beq_yes h1
            have hs2 := str_beq_no h2
            clear h1 h2 hpq
            go_wp2
            go_quiet (fail)
            go_wp2
            go_ret
            exact ⟨ret_bool HN.out.symm, m + nq, by simp⟩
          · have hs1 := str_beq_no h1
            clear h1 hpq
            go_wp2
            go_quiet (fail)
            go_wp2
            go_ret
            exact ⟨ret_bool HN.out.symm, m + nq, by simp⟩
      · have HN : Hid (decide (ts = us) = true) := by
          show _ = _
          rw [decide_eq_true_iff]
          have h := HE.out
          have := HL.out
          rwa [List.take_of_length_le (by omega), List.take_of_length_le (by omega)] at h
        go_wp2
        go_ret
        exact ⟨ret_bool HN.out.symm, m, rfl⟩
  · have hb : ((ts.length : Int) != (us.length : Int)) = true := by simp; omega
    have HN : Hid (decide (ts = us) = false) := by
      show _ = _
      rw [decide_eq_false_iff_not]
      rintro rfl
      exact hlen rfl
    clear hv hu
    go_enter Tryz.func43, Tryz.ntmps43
    go_wp2
    go_ret
    exact ⟨ret_bool HN.out.symm, 0, rfl⟩
/-- A token's value, of any kind. -/
abbrev tokI (k : Int) (n : List UInt8) (v : Value) (s : Bool) (x : List UInt8) : Value := .agg (kCells k n v s x)
def sameK (k1 k2 : Int) (n1 n2 : List UInt8) (p1 p2 : List Pr) (s1 s2 : Bool) (x1 x2 : List UInt8) : Bool := (k1 == k2) && ((n1 == n2) && ((decide (p1 = p2)) && ((s1 == s2) && (x1 == x2))))
theorem ne_of_beq {a b : Int} (h : (a == b) = false) : (a != b) = true := by unfold bne; rw [h]; rfl
theorem eq_of_beq' {a b : Int} (h : (a == b) = true) : (a != b) = false := by unfold bne; rw [h]; rfl
set_option maxHeartbeats 1000000 in
set_option maxRecDepth 100000 in
theorem SameT_any (k1 k2 : Int) (n1 n2 : List UInt8) (p1 p2 : List Pr) (s1 s2 : Bool) (x1 x2 : List UInt8) (v1 v2 : Value) (w : World) (hv : ReadsPairs w v1 p1) (hu : ReadsPairs w v2 p2) (hl : p1.length ≤ 1000000) (hm : p2.length ≤ 1000000) :
    Calls Tryz.prog 23 #[tokI k1 n1 v1 s1 x1, tokI k2 n2 v2 s2 x2] w fun e w' => e = .returned (.bool (sameK k1 k2 n1 n2 p1 p2 s1 s2 x1 x2)) ∧ Below w.heap.size w w' := by
  obtain ⟨a1, c1, rfl⟩ := hv.form
  obtain ⟨a2, c2, rfl⟩ := hu.form
  have HV : Hid (sameK k1 k2 n1 n2 p1 p2 s1 s2 x1 x2 = ((k1 == k2) && ((n1 == n2) && ((decide (p1 = p2)) && ((s1 == s2) && (x1 == x2)))))) := rfl
  have hb0 : Below w.heap.size w ((w.alloc (.cells (kCells k1 n1 (.slice a1 p1.length c1) s1 x1) 37)).alloc (.cells (kCells k2 n2 (.slice a2 p2.length c2) s2 x2) 37)) := ((Below.refl _ w).alloc (Nat.le_refl _) _).alloc (by simp) _
  have hE := hideT (EqualA_any _ _ p1 p2 _ (hv.below hb0) (hu.below hb0) hl hm)
  clear hv hu
  have qn := str_beq n1 n2
  have qx := str_beq x1 x2
  cases hk : (k1 == k2)
  · rw [hk] at HV
    go_enter Tryz.func23, Tryz.ntmps23
    go_wp2
    go_ret
    exact ⟨ret_bool HV.out.symm, hb0⟩
  rw [hk] at HV
  cases hn : (n1 == n2)
  · rw [hn] at HV qn
    clear hn
    go_enter Tryz.func23, Tryz.ntmps23
    go_wp2
    go_ret
    exact ⟨ret_bool HV.out.symm, hb0⟩
  rw [hn] at HV qn
  clear hn
  cases hp : (decide (p1 = p2))
  · rw [hp] at HV hE
    clear hp
    go_enter Tryz.func23, Tryz.ntmps23
    go_wp2_with (go_at_call 43; refine hE.out.mono ?_; rintro e w1 ⟨rfl, hq1⟩)
    go_ret
    exact ⟨ret_bool HV.out.symm, bel hb0 (bel_quiet hq1)⟩
  rw [hp] at HV hE
  clear hp
  cases hs : (s1 == s2)
  · rw [hs] at HV
    go_enter Tryz.func23, Tryz.ntmps23
    go_wp2_with (go_at_call 43; refine hE.out.mono ?_; rintro e w1 ⟨rfl, hq1⟩; have hB1 := hideT (bel_quiet hq1); obtain ⟨m1, rfl⟩ := hq1)
    go_ret
    exact ⟨ret_bool HV.out.symm, bel hb0 hB1.out⟩
  rw [hs] at HV
  cases hx : (x1 == x2)
  all_goals
    rw [hx] at HV qx
    clear hx
    go_enter Tryz.func23, Tryz.ntmps23
    go_wp2_with (go_at_call 43; refine hE.out.mono ?_; rintro e w1 ⟨rfl, hq1⟩; have hB1 := hideT (bel_quiet hq1); obtain ⟨m1, rfl⟩ := hq1)
    go_ret
    exact ⟨ret_bool HV.out.symm, bel hb0 hB1.out⟩
end Go.Proofs.YtagceinccibnjaaGreatDoor
