/- Contracts of refs.wholeName, shortName and Next. -/
import Derived.Test.YtdllcnifkiebjaaDoorRfG
set_option linter.unusedVariables false
set_option linter.unusedSimpArgs false
namespace Go.Proofs.YtdllcnifkiebjaaDoor
open Go.RowKit
theorem tw_take (p : UInt8 → Bool) (u : List UInt8) : u.take (u.takeWhile p).length = u.takeWhile p := by
  induction u with
  | nil => rfl
  | cons c r ih =>
    rw [List.takeWhile_cons]
    cases h : p c
    · rfl
    · simp [ih]
theorem tw_le (p : UInt8 → Bool) (u : List UInt8) : (u.takeWhile p).length ≤ u.length := by
  rw [← tw_take p u, List.length_take]; omega
set_option maxHeartbeats 1000000 in
set_option maxRecDepth 100000 in
theorem wholeName_any (t : List UInt8) (w : World) (hz : t.length ≤ 1000000000) :
    Calls Tryd.prog 29 #[.string (str t)] w fun e w' => e = .returned (.tuple #[.int .i32 (Rf.whSg t), .int .i64 (Rf.whSz t)]) ∧ Below w.heap.size w w' := by
  have hsz := str_size t
  have hR := run_name (str t)
  rw [str_data, hsz] at hR
  have hl : (Rf.wn t).length ≤ t.length := tw_le _ t
  have he1 : (str t).extract (Rf.wn t).length t.length = str (t.drop (Rf.wn t).length) := str_from t _
  have he2 : (str t).extract 0 (Rf.wn t).length = str (Rf.wn t) := by rw [str_to, show t.take (Rf.wn t).length = Rf.wn t from tw_take _ t]
  have HG : Hid (Rf.whSg t = if ([59].isPrefixOf (t.drop (Rf.wn t).length) && (Rf.sgn (Rf.wn t) != 0)) = true then Rf.sgn (Rf.wn t) else 0) := rfl
  have HZ : Hid (Rf.whSz t = if ([59].isPrefixOf (t.drop (Rf.wn t).length) && (Rf.sgn (Rf.wn t) != 0)) = true then (Rf.wn t).length + 1 else 0) := rfl
  have hN := Name_any (Rf.wn t)
  have hR' : ∀ W, Calls Tryd.prog 54 #[.string (str t), .func (.func 55) #[] #[]] W fun e w' => e = .returned (.int .i64 (Rf.wn t).length) ∧ w' = W := fun W => hR W hz
  clear hR
  generalize t.drop (Rf.wn t).length = u at *
  generalize Rf.sgn (Rf.wn t) = x at *
  generalize Rf.wn t = n at *
  cases hp : [59].isPrefixOf u
  · have q := Pre hp
    rw [hp] at HG HZ
    clear hp
    go_enter Tryd.func29, Tryd.ntmps29
    go_wp2_with (first
      | (go_at_call 54; refine (hR' _).mono ?_; rintro e w1 ⟨rfl, hw⟩; rw [hw]; clear hw)
      | (go_at_call 49; refine (q _).mono ?_; rintro e w1 ⟨rfl, hw⟩; rw [hw]; clear hw))
    go_ret2
    rw [HG.out, HZ.out]
    exact ⟨rfl, Below.refl _ _⟩
  · have q := Pre hp
    rw [hp] at HG HZ
    clear hp
    cases hx : (x != 0)
    · rw [hx] at HG HZ hN
      clear hx
      go_enter Tryd.func29, Tryd.ntmps29
      go_wp2_with (first
        | (go_at_call 54; refine (hR' _).mono ?_; rintro e w1 ⟨rfl, hw⟩; rw [hw]; clear hw)
        | (go_at_call 49; refine (q _).mono ?_; rintro e w1 ⟨rfl, hw⟩; rw [hw]; clear hw)
        | (go_at_call 9; refine (hN _).mono ?_; rintro e w1 ⟨rfl, hb1⟩))
      go_ret2
      rw [HG.out, HZ.out]
      exact ⟨rfl, hb1⟩
    · rw [hx] at HG HZ hN
      clear hx
      go_enter Tryd.func29, Tryd.ntmps29
      go_wp2_with (first
        | (go_at_call 54; refine (hR' _).mono ?_; rintro e w1 ⟨rfl, hw⟩; rw [hw]; clear hw)
        | (go_at_call 49; refine (q _).mono ?_; rintro e w1 ⟨rfl, hw⟩; rw [hw]; clear hw)
        | (go_at_call 9; refine (hN _).mono ?_; rintro e w1 ⟨rfl, hb1⟩))
      go_ret2
      rw [HG.out, HZ.out]
      exact ⟨by simp, hb1⟩
def from2 (k : Nat) : List Nat := [2, 3, 4].drop (k - 2)
theorem from2_go (k : Nat) (h : 2 ≤ k) (h2 : k ≤ 4) : from2 k = k :: from2 (k + 1) := by
  match k, h, h2 with
  | 2, _, _ | 3, _, _ | 4, _, _ => rfl
theorem from2_end (a : Bool) (t : List UInt8) (k : Nat) (h : 2 ≤ k) (h2 : ¬ (k ≤ 4 ∧ k ≤ t.length)) : Rf.shL a t (from2 k) = (0, 0) := by
  by_cases h3 : k ≤ 4
  · have : t.length < k := by omega
    match k, h, h3 with
    | 2, _, _ => simp only [from2, List.drop_succ_cons, List.drop_zero, Nat.sub_self, Rf.shL]; rw [if_neg (by omega), if_neg (by omega), if_neg (by omega)]
    | 3, _, _ => simp only [from2, List.drop_succ_cons, List.drop_zero, Rf.shL]; rw [if_neg (by omega), if_neg (by omega)]
    | 4, _, _ => simp only [from2, List.drop_succ_cons, List.drop_zero, Rf.shL]; rw [if_neg (by omega)]
  · have : from2 k = [] := by unfold from2; exact List.drop_eq_nil_of_le (by simp; omega)
    rw [this]
    rfl
set_option maxHeartbeats 1000000 in
set_option maxRecDepth 100000 in
theorem shortName_any (t : List UInt8) (a : Bool) (w : World) (hz : t.length ≤ 1000000000) :
    Calls Tryd.prog 30 #[.string (str t), .bool a] w fun e w' => e = .returned (.tuple #[.int .i32 (Rf.sh a t).1, .int .i64 (Rf.sh a t).2]) ∧ w' = w := by
  have hsz := str_size t
  go_enter Tryd.func30, Tryd.ntmps30
  go_wp2
  go_loop [6] (fun i => ∃ k : Nat, 2 ≤ k ∧ k ≤ 5 ∧ i = .int .i64 k ∧ Hid (Rf.sh a t = Rf.shL a t (from2 k))) (fun i => 5 - (intOf i).toNat)
  case atStart => exact ⟨2, by omega, by omega, rfl, rfl⟩
  case round =>
    obtain ⟨k, hk0, hk1, rfl, HE⟩ := hrel
    by_cases hk : k ≤ 4 ∧ k ≤ t.length
    · obtain ⟨hk2, hk3⟩ := hk
      have hkm : (k : Int) ≤ min (4 : Int) (t.length : Int) := by omega
      have he1 : (str t).extract 0 k = str (t.take k) := str_to t k
      have he2 : (str t).extract k t.length = str (t.drop k) := str_from t k
      have hS := shortSign_any (t.take k)
      have hG := goesOn_any (t.drop k)
      have HS : Hid (Rf.sh a t = if Rf.look Rf.shortT (t.take k) ≠ 0 then (if (a && Rf.goesOn (t.drop k)) = true then (0, 0) else (Rf.look Rf.shortT (t.take k), k)) else Rf.shL a t (from2 (k + 1))) := by
        show _ = _
        rw [HE.out, from2_go k hk0 hk2, Rf.shL]
        by_cases hc : Rf.look Rf.shortT (t.take k) ≠ 0
        · rw [if_pos ⟨hk3, hc⟩, if_pos hc]; rfl
        · rw [if_neg (fun h => hc h.2), if_neg hc]
      generalize Rf.look Rf.shortT (t.take k) = x at hS HS
      generalize t.take k = u1 at *
      generalize t.drop k = u2 at *
      by_cases hx : x = 0
      · subst hx
        have HN : Hid (Rf.sh a t = Rf.shL a t (from2 (k + 1))) := HS.out
        go_wp2_with (go_at_call 44; refine (hS _).mono ?_; rintro e w1 ⟨rfl, hw⟩; rw [hw]; clear hw)
        go_round
        case rel => exact ⟨k + 1, by omega, by omega, by go_num, HN⟩
        case measure => simp [intOf]; omega
      · have hx2 : (x == 0) = false := beq_eq_false_iff_ne.2 hx
        have HN : Hid (Rf.sh a t = if (a && Rf.goesOn u2) = true then (0, 0) else (x, k)) := by
          show _ = _
          rw [HS.out, if_pos hx]
        clear HS HE
        generalize Rf.goesOn u2 = g at *
        cases a
        · go_wp2_with (first
            | (go_at_call 44; refine (hS _).mono ?_; rintro e w1 ⟨rfl, hw⟩; rw [hw]; clear hw)
            | (go_at_call 56; refine (hG _).mono ?_; rintro e w1 ⟨rfl, hw⟩; rw [hw]; clear hw))
          go_ret2
          rw [HN.out]
          exact ⟨rfl, rfl⟩
        · cases g
          · go_wp2_with (first
              | (go_at_call 44; refine (hS _).mono ?_; rintro e w1 ⟨rfl, hw⟩; rw [hw]; clear hw)
              | (go_at_call 56; refine (hG _).mono ?_; rintro e w1 ⟨rfl, hw⟩; rw [hw]; clear hw))
            go_ret2
            rw [HN.out]
            exact ⟨rfl, rfl⟩
          · go_wp2_with (first
              | (go_at_call 44; refine (hS _).mono ?_; rintro e w1 ⟨rfl, hw⟩; rw [hw]; clear hw)
              | (go_at_call 56; refine (hG _).mono ?_; rintro e w1 ⟨rfl, hw⟩; rw [hw]; clear hw))
            go_ret2
            rw [HN.out]
            exact ⟨rfl, rfl⟩
    · have hkm : ¬ (k : Int) ≤ min (4 : Int) (t.length : Int) := by omega
      have HN : Hid (Rf.sh a t = (0, 0)) := by
        show _ = _
        rw [HE.out, from2_end a t k hk0 hk]
      go_wp2
      go_ret2
      rw [HN.out]
      exact ⟨rfl, rfl⟩
end Go.Proofs.YtdllcnifkiebjaaDoor
