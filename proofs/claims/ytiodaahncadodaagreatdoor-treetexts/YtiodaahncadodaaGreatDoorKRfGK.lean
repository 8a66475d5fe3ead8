/- Texts laid as one. -/
import Derived.Test.YtiodaahncadodaaGreatDoorKRfEF
import Derived.Test.YtiodaahncadodaaGreatDoorKRfFh
import Derived.Test.YtiodaahncadodaaGreatDoorKRfFx
import Derived.Test.YtiodaahncadodaaGreatDoorKRfM
import Derived.Test.YtiodaahncadodaaGreatDoorKUBY
import Derived.Test.YtiodaahncadodaaGreatDoorKURepair
/- The contract of refs.number. -/
set_option linter.unusedVariables false
set_option linter.unusedSimpArgs false
namespace Go.Proofs.YtiodaahncadodaaGreatDoor
open Go.RowKit
theorem number_any (t : List UInt8) (w : World) (hz : t.length ≤ 1000000000) (hW : Win w) :
    Calls Tryz.prog 176 #[.string (str t)] w fun e w' => e = .returned (.tuple #[.int .i32 (Rf.numSg t), .int .i64 (Rf.numSz t)]) ∧ w' = w := by
  cases h : [35].isPrefixOf t
  · exact number_not t w h
  cases h1 : [35,120].isPrefixOf t
  · cases h2 : [35,88].isPrefixOf t
    · exact number_dec t w hz hW h h1 h2
    · exact number_heX t w hz hW h h1 h2
  · exact number_hex t w hz hW h h1
end Go.Proofs.YtiodaahncadodaaGreatDoor
/- Contracts of refs.wholeName, shortName and Next. -/
namespace Go.Proofs.YtiodaahncadodaaGreatDoor
open Go.RowKit
theorem tw_take (p : UInt8 → Bool) (u : List UInt8) : u.take (u.takeWhile p).length = u.takeWhile p := by
  induction u with
  | nil => rfl
  | cons c r ih =>
    rw [List.takeWhile_cons]
    cases h : p c
    · rfl
    · simp [ih]
theorem tw_le (p : UInt8 → Bool) (u : List UInt8) : (u.takeWhile p).length ≤ u.length := by
  rw [← tw_take p u, List.length_take]; omega
set_option maxHeartbeats 1000000 in
set_option maxRecDepth 100000 in
theorem wholeName_any (t : List UInt8) (w : World) (hz : t.length ≤ 1000000000) :
    Calls Tryz.prog 177 #[.string (str t)] w fun e w' => e = .returned (.tuple #[.int .i32 (Rf.whSg t), .int .i64 (Rf.whSz t)]) ∧ Below w.heap.size w w' := by
  have hsz := str_size t
  have hR := run_name (str t)
  rw [str_data, hsz] at hR
  have hl : (Rf.wn t).length ≤ t.length := tw_le _ t
  have he1 : (str t).extract (Rf.wn t).length t.length = str (t.drop (Rf.wn t).length) := str_from t _
  have he2 : (str t).extract 0 (Rf.wn t).length = str (Rf.wn t) := by rw [str_to, show t.take (Rf.wn t).length = Rf.wn t from tw_take _ t]
  have HG : Hid (Rf.whSg t = if ([59].isPrefixOf (t.drop (Rf.wn t).length) && (Rf.sgn (Rf.wn t) != 0)) = true then Rf.sgn (Rf.wn t) else 0) := rfl
  have HZ : Hid (Rf.whSz t = if ([59].isPrefixOf (t.drop (Rf.wn t).length) && (Rf.sgn (Rf.wn t) != 0)) = true then (Rf.wn t).length + 1 else 0) := rfl
  have hN := Name_any (Rf.wn t)
  have hR' : ∀ W, Calls Tryz.prog 192 #[.string (str t), .func (.func 194) #[] #[]] W fun e w' => e = .returned (.int .i64 (Rf.wn t).length) ∧ w' = W := fun W => hR W hz
  clear hR
  generalize t.drop (Rf.wn t).length = u at *
  generalize Rf.sgn (Rf.wn t) = x at *
  generalize Rf.wn t = n at *
  cases hp : [59].isPrefixOf u
  · have q := Pre hp
    rw [hp] at HG HZ
    clear hp
    go_enter Tryz.func177, Tryz.ntmps177
    go_wp2_with (first
      | (go_at_call 192; refine (hR' _).mono ?_; rintro e w1 ⟨rfl, hw⟩; rw [hw]; clear hw)
      | (go_at_call 127; refine (q _).mono ?_; rintro e w1 ⟨rfl, hw⟩; rw [hw]; clear hw))
    go_ret2
    rw [HG.out, HZ.out]
    exact ⟨rfl, Below.refl _ _⟩
  · have q := Pre hp
    rw [hp] at HG HZ
    clear hp
    cases hx : (x != 0)
    · rw [hx] at HG HZ hN
      clear hx
      go_enter Tryz.func177, Tryz.ntmps177
      go_wp2_with (first
        | (go_at_call 192; refine (hR' _).mono ?_; rintro e w1 ⟨rfl, hw⟩; rw [hw]; clear hw)
        | (go_at_call 127; refine (q _).mono ?_; rintro e w1 ⟨rfl, hw⟩; rw [hw]; clear hw)
        | (go_at_call 195; refine (hN _).mono ?_; rintro e w1 ⟨rfl, hb1⟩))
      go_ret2
      rw [HG.out, HZ.out]
      exact ⟨rfl, hb1⟩
    · rw [hx] at HG HZ hN
      clear hx
      go_enter Tryz.func177, Tryz.ntmps177
      go_wp2_with (first
        | (go_at_call 192; refine (hR' _).mono ?_; rintro e w1 ⟨rfl, hw⟩; rw [hw]; clear hw)
        | (go_at_call 127; refine (q _).mono ?_; rintro e w1 ⟨rfl, hw⟩; rw [hw]; clear hw)
        | (go_at_call 195; refine (hN _).mono ?_; rintro e w1 ⟨rfl, hb1⟩))
      go_ret2
      rw [HG.out, HZ.out]
      exact ⟨by simp, hb1⟩
def from2 (k : Nat) : List Nat := [2, 3, 4].drop (k - 2)
theorem from2_go (k : Nat) (h : 2 ≤ k) (h2 : k ≤ 4) : from2 k = k :: from2 (k + 1) := by
  match k, h, h2 with
  | 2, _, _ | 3, _, _ | 4, _, _ => rfl
theorem from2_end (a : Bool) (t : List UInt8) (k : Nat) (h : 2 ≤ k) (h2 : ¬ (k ≤ 4 ∧ k ≤ t.length)) : Rf.shL a t (from2 k) = (0, 0) := by
  by_cases h3 : k ≤ 4
  · have : t.length < k := by omega
    match k, h, h3 with
    | 2, _, _ => simp only [from2, List.drop_succ_cons, List.drop_zero, Nat.sub_self, Rf.shL]; rw [if_neg (by omega), if_neg (by omega), if_neg (by omega)]
    | 3, _, _ => simp only [from2, List.drop_succ_cons, List.drop_zero, Rf.shL]; rw [if_neg (by omega), if_neg (by omega)]
    | 4, _, _ => simp only [from2, List.drop_succ_cons, List.drop_zero, Rf.shL]; rw [if_neg (by omega)]
  · have : from2 k = [] := by unfold from2; exact List.drop_eq_nil_of_le (by simp; omega)
    rw [this]
    rfl
set_option maxHeartbeats 1000000 in
set_option maxRecDepth 100000 in
theorem shortName_any (t : List UInt8) (a : Bool) (w : World) (hz : t.length ≤ 1000000000) :
    Calls Tryz.prog 178 #[.string (str t), .bool a] w fun e w' => e = .returned (.tuple #[.int .i32 (Rf.sh a t).1, .int .i64 (Rf.sh a t).2]) ∧ w' = w := by
  have hsz := str_size t
  go_enter Tryz.func178, Tryz.ntmps178
  go_wp2
  go_loop [6] (fun i => ∃ k : Nat, 2 ≤ k ∧ k ≤ 5 ∧ i = .int .i64 k ∧ Hid (Rf.sh a t = Rf.shL a t (from2 k))) (fun i => 5 - (intOf i).toNat)
  case atStart => exact ⟨2, by omega, by omega, rfl, rfl⟩
  case round =>
    obtain ⟨k, hk0, hk1, rfl, HE⟩ := hrel
    by_cases hk : k ≤ 4 ∧ k ≤ t.length
    · obtain ⟨hk2, hk3⟩ := hk
      have hkm : (k : Int) ≤ min (4 : Int) (t.length : Int) := by omega
      have he1 : (str t).extract 0 k = str (t.take k) := str_to t k
      have he2 : (str t).extract k t.length = str (t.drop k) := str_from t k
      have hS := shortSign_any (t.take k)
      have hG := goesOn_any (t.drop k)
      have HS : Hid (Rf.sh a t = if Rf.look Rf.shortT (t.take k) ≠ 0 then (if (a && Rf.goesOn (t.drop k)) = true then (0, 0) else (Rf.look Rf.shortT (t.take k), k)) else Rf.shL a t (from2 (k + 1))) := by
        show _ = _
        rw [HE.out, from2_go k hk0 hk2, Rf.shL]
        by_cases hc : Rf.look Rf.shortT (t.take k) ≠ 0
        · rw [if_pos ⟨hk3, hc⟩, if_pos hc]; rfl
        · rw [if_neg (fun h => hc h.2), if_neg hc]
      generalize Rf.look Rf.shortT (t.take k) = x at hS HS
      generalize t.take k = u1 at *
      generalize t.drop k = u2 at *
      by_cases hx : x = 0
      · subst hx
        have HN : Hid (Rf.sh a t = Rf.shL a t (from2 (k + 1))) := HS.out
        go_wp2_with (go_at_call 196; refine (hS _).mono ?_; rintro e w1 ⟨rfl, hw⟩; rw [hw]; clear hw)
        go_round
        case rel => exact ⟨k + 1, by omega, by omega, by go_num, HN⟩
        case measure => simp [intOf]; omega
      · have hx2 : (x == 0) = false := beq_eq_false_iff_ne.2 hx
        have HN : Hid (Rf.sh a t = if (a && Rf.goesOn u2) = true then (0, 0) else (x, k)) := by
          show _ = _
          rw [HS.out, if_pos hx]
        clear HS HE
        generalize Rf.goesOn u2 = g at *
        cases a
        · go_wp2_with (first
            | (go_at_call 196; refine (hS _).mono ?_; rintro e w1 ⟨rfl, hw⟩; rw [hw]; clear hw)
            | (go_at_call 197; refine (hG _).mono ?_; rintro e w1 ⟨rfl, hw⟩; rw [hw]; clear hw))
          go_ret2
          rw [HN.out]
          exact ⟨rfl, rfl⟩
        · cases g
          · go_wp2_with (first
              | (go_at_call 196; refine (hS _).mono ?_; rintro e w1 ⟨rfl, hw⟩; rw [hw]; clear hw)
              | (go_at_call 197; refine (hG _).mono ?_; rintro e w1 ⟨rfl, hw⟩; rw [hw]; clear hw))
            go_ret2
            rw [HN.out]
            exact ⟨rfl, rfl⟩
          · go_wp2_with (first
              | (go_at_call 196; refine (hS _).mono ?_; rintro e w1 ⟨rfl, hw⟩; rw [hw]; clear hw)
              | (go_at_call 197; refine (hG _).mono ?_; rintro e w1 ⟨rfl, hw⟩; rw [hw]; clear hw))
            go_ret2
            rw [HN.out]
            exact ⟨rfl, rfl⟩
    · have hkm : ¬ (k : Int) ≤ min (4 : Int) (t.length : Int) := by omega
      have HN : Hid (Rf.sh a t = (0, 0)) := by
        show _ = _
        rw [HE.out, from2_end a t k hk0 hk]
      go_wp2
      go_ret2
      rw [HN.out]
      exact ⟨rfl, rfl⟩
end Go.Proofs.YtiodaahncadodaaGreatDoor
/- The contract of refs.Next. -/
namespace Go.Proofs.YtiodaahncadodaaGreatDoor
open Go.RowKit
def nxV (r : Int × Nat × Bool) : Value := .tuple #[.int .i32 r.1, .int .i64 r.2.1, .bool r.2.2]
set_option maxHeartbeats 1000000 in
set_option maxRecDepth 100000 in
theorem Next_amp (t : List UInt8) (a : Bool) (w : World) (hz : t.length ≤ 1000000000) (hW : Win w) :
    Calls Tryz.prog 149 #[.string (str (38 :: t)), .bool a] w fun e w' => e = .returned (nxV (Rf.nx a (38 :: t))) ∧ Below w.heap.size w w' := by
  have hC : ∀ W, Calls Tryz.prog 122 #[.string (str (38 :: t)), .string (str [38])] W fun e w' => e = .returned (.tuple #[.string (str t), .bool true]) ∧ w' = W := fun W => CutPrefix_l (38 :: t) [38] W
  rw [Rf.nx_amp a t]
  unfold Rf.next
  have h1 := fun W hW => number_any t W hz hW
  have h2 := fun W => wholeName_any t W hz
  have h3 := fun W => shortName_any t a W hz
  have hl1 : Rf.numSz t ≤ t.length := by
    obtain ⟨p, h1, _, h3⟩ := Rf.num_low t
    have := congrArg List.length h3
    rw [List.length_append, h1] at this
    omega
  have hl2 : Rf.whSz t ≤ t.length := by
    obtain ⟨p, h1, _, h3⟩ := Rf.wh_low t
    have := congrArg List.length h3
    rw [List.length_append, h1] at this
    omega
  have hl3 : (Rf.sh a t).2 ≤ t.length := by
    obtain ⟨p, h1, _, h3⟩ := Rf.sh_low a t
    have := congrArg List.length h3
    rw [List.length_append, h1] at this
    omega
  generalize Rf.numSz t = n1 at *
  generalize Rf.numSg t = x1 at *
  generalize Rf.whSz t = n2 at *
  generalize Rf.whSg t = x2 at *
  generalize Rf.sh a t = r3 at *
  obtain ⟨x3, n3⟩ := r3
  simp only at h3 hl3
  by_cases hn1 : n1 = 0
  · subst hn1
    by_cases hn2 : n2 = 0
    · subst hn2
      by_cases hn3 : n3 = 0
      · subst hn3
        go_enter Tryz.func149, Tryz.ntmps149
        go_wp2_with (first
          | (go_at_call 122; refine (hC _).mono ?_; rintro e w1 ⟨rfl, hw⟩; rw [hw]; clear hw)
          | (go_at_call 176; refine (h1 _ hW).mono ?_; rintro e w1 ⟨rfl, hw⟩; rw [hw]; clear hw)
          | (go_at_call 177; refine (h2 _).mono ?_; rintro e w2 ⟨rfl, hb2⟩)
          | (go_at_call 178; refine (h3 _).mono ?_; rintro e w3 ⟨rfl, hw⟩; rw [hw]; clear hw))
        go_ret3
        exact ⟨rfl, hb2⟩
      · have hq : ((n3 : Int) == 0) = false := by rw [beq_eq_false_iff_ne]; omega
        have hq2 : ¬ (n3 : Int) = 0 := by omega
        go_enter Tryz.func149, Tryz.ntmps149
        go_wp2_with (first
          | (go_at_call 122; refine (hC _).mono ?_; rintro e w1 ⟨rfl, hw⟩; rw [hw]; clear hw)
          | (go_at_call 176; refine (h1 _ hW).mono ?_; rintro e w1 ⟨rfl, hw⟩; rw [hw]; clear hw)
          | (go_at_call 177; refine (h2 _).mono ?_; rintro e w2 ⟨rfl, hb2⟩)
          | (go_at_call 178; refine (h3 _).mono ?_; rintro e w3 ⟨rfl, hw⟩; rw [hw]; clear hw))
        go_ret3
        exact ⟨by simp [nxV, hn3]; omega, hb2⟩
    · have hq : ((n2 : Int) == 0) = false := by rw [beq_eq_false_iff_ne]; omega
      have hq2 : ¬ (n2 : Int) = 0 := by omega
      go_enter Tryz.func149, Tryz.ntmps149
      go_wp2_with (first
        | (go_at_call 122; refine (hC _).mono ?_; rintro e w1 ⟨rfl, hw⟩; rw [hw]; clear hw)
        | (go_at_call 176; refine (h1 _ hW).mono ?_; rintro e w1 ⟨rfl, hw⟩; rw [hw]; clear hw)
        | (go_at_call 177; refine (h2 _).mono ?_; rintro e w2 ⟨rfl, hb2⟩))
      all_goals first | (exfalso; omega) | (go_ret3; exact ⟨by simp [nxV, hn2]; omega, hb2⟩)
  · have hq : ((n1 : Int) == 0) = false := by rw [beq_eq_false_iff_ne]; omega
    have hq2 : ¬ (n1 : Int) = 0 := by omega
    go_enter Tryz.func149, Tryz.ntmps149
    go_wp2_with (first
      | (go_at_call 122; refine (hC _).mono ?_; rintro e w1 ⟨rfl, hw⟩; rw [hw]; clear hw)
      | (go_at_call 176; refine (h1 _ hW).mono ?_; rintro e w1 ⟨rfl, hw⟩; rw [hw]; clear hw))
    all_goals first | (exfalso; omega) | (go_ret3; exact ⟨by simp [nxV, hn1]; omega, Below.refl _ _⟩)
set_option maxHeartbeats 400000 in
theorem Next_not (l : List UInt8) (a : Bool) (w : World) (h : [38].isPrefixOf l = false) :
    Calls Tryz.prog 149 #[.string (str l), .bool a] w fun e w' => e = .returned (nxV (Rf.nx a l)) ∧ Below w.heap.size w w' := by
  have hC : ∀ W, Calls Tryz.prog 122 #[.string (str l), .string (str [38])] W fun e w' => e = .returned (.tuple #[.string (str l), .bool false]) ∧ w' = W := fun W => by
    have := CutPrefix_l l [38] W
    rw [h] at this
    exact this
  rw [Rf.nx_none a l h]
  clear h
  go_enter Tryz.func149, Tryz.ntmps149
  go_wp2_with (go_at_call 122; refine (hC _).mono ?_; rintro e w1 ⟨rfl, hw⟩; rw [hw]; clear hw)
  go_ret3
  exact ⟨rfl, Below.refl _ _⟩
theorem Next_any (l : List UInt8) (a : Bool) (w : World) (hz : l.length ≤ 1000000000) (hW : Win w) :
    Calls Tryz.prog 149 #[.string (str l), .bool a] w fun e w' => e = .returned (nxV (Rf.nx a l)) ∧ Below w.heap.size w w' := by
  cases h : [38].isPrefixOf l
  · exact Next_not l a w h
  · obtain ⟨t, rfl⟩ := Rf.amp_form l h
    exact Next_amp t a w (by simp at hz; omega) hW
end Go.Proofs.YtiodaahncadodaaGreatDoor
/- Contracts of a builder's Write, and of refs.Decode. -/
namespace Go.Proofs.YtiodaahncadodaaGreatDoor
open Go.RowKit
theorem builder_keep {T e : TypeId} {B b : Nat} {p : Value} {bs : List Value} {w w' : World} (h : Lib.BuilderAtF T e B b p bs w) (hk : ∀ k, k < w.heap.size → w'.heap[k]? = w.heap[k]?) : Lib.BuilderAtF T e B b p bs w' := by
  obtain ⟨hB, v, hb, hown, hne⟩ := h
  have hlt : b < w.heap.size := (Array.getElem?_eq_some_iff.1 hb).1
  refine ⟨hB, v, (hk b hlt).trans hb, ?_, hne⟩
  refine ⟨hown.1, ?_⟩
  rcases hown.2 with h0 | ⟨g, cap, cur, fz, hv, hB2, hg, rest⟩
  · exact .inl h0
  · exact .inr ⟨g, cap, cur, fz, hv, hB2, (hk g (Array.getElem?_eq_some_iff.1 hg).1).trans hg, rest⟩
theorem builder_below {T e : TypeId} {B b : Nat} {p : Value} {bs : List Value} {w w' : World} (h : Lib.BuilderAtF T e B b p bs w) (hb : Below w.heap.size w w') : Lib.BuilderAtF T e B b p bs w' :=
  builder_keep h fun k hk => hb.block k hk
set_option maxHeartbeats 4000000 in
set_option maxRecDepth 100000 in
theorem Write_used (B b : Nat) (bs : List Value) (v : Value) (l : List UInt8) (w : World) (h : Lib.BuilderAtF 80 5 B b (.pointer (some ⟨b, 0, none⟩)) bs w) (hv : ReadsCells w v (cellsB l)) (hl : 1 ≤ l.length) (hl2 : l.length ≤ 1000) (hlen : bs.length + 1000 ≤ 140737488355328) (hBw : B ≤ w.heap.size) :
    Calls Tryz.prog 150 #[.pointer (some ⟨b, 0, none⟩), v] w fun e w' => (∃ u, e = .returned u) ∧ (Lib.BuilderAtF 80 5 B b (.pointer (some ⟨b, 0, none⟩)) (bs ++ cellsB l) w' ∧ Below B w w') := by
  obtain ⟨i0, hi, hz0, hz1, hz2⟩ := info_parts infoByte
  obtain ⟨sb, so, c, rfl, hr⟩ : ∃ sb so c, v = .slice (some ⟨sb, so, none⟩) l.length c ∧ ∀ (j : Nat) x, (cellsB l)[j]? = some x → w.cell? ((⟨sb, so, none⟩ : Addr).add j) = some x := by
    rcases hv with ⟨a, c, rfl, h0⟩ | ⟨sb, so, c, rfl, _, h3⟩
    · have := congrArg List.length h0
      rw [cellsB_length, List.length_nil] at this
      omega
    · refine ⟨sb, so, c, by rw [cellsB_length], fun j x hj => ?_⟩
      rw [add_addr]
      exact h3 j x hj
  have HR : Hid (∀ (j : Nat) x, (cellsB l)[j]? = some x → w.cell? ((⟨sb, so, none⟩ : Addr).add j) = some x) := hr
  clear hr hv
  obtain ⟨hB, u, hbk, hown, hne⟩ := h
  have c0 : w.cell? ⟨b, 0, none⟩ = some (.pointer (some ⟨b, 0, none⟩)) := by rw [Lib.cell_of_heap hbk]; rfl
  have c1 : w.cell? ⟨b, 1, none⟩ = some u := by rw [Lib.cell_of_heap hbk]; rfl
  have hlt : b < w.heap.size := (Array.getElem?_eq_some_iff.1 hbk).1
  go_enter Tryz.func150, Tryz.ntmps150
  go_wp2_with (go_at_call 132; refine (copyCheck_used b w c0).mono ?_)
  rintro e w1 ⟨rfl, hw⟩
  rw [hw]
  clear hw
  go_wp2_with (at_builtin; refine wpList_append_ownF _ rfl _ _ 78 rfl B 5 i0 (.int .u8 0) 1 1 Tryz.underlying78 hi hz0 hz1 hz2 rfl (by decide) _ _ _ rfl hown ⟨sb, so, none⟩ l.length c (cellsB l) rfl (by rw [cellsB_length, Nat.mul_one]) HR.out (one_cell l) (by unfold maxLen; omega) (by omega) (by omega) ?_)
  intro v' w2 hown' hgrow _
  have hb2 : w2.heap[b]? = some (.cells #[.pointer (some ⟨b, 0, none⟩), u] 80 (0, 0)) := by
    rw [hgrow.block b hlt (fun e => hne e.symm)]
    exact hbk
  have d0 : w2.cell? ⟨b, 0, none⟩ = some (.pointer (some ⟨b, 0, none⟩)) := by rw [Lib.cell_of_heap hb2]; rfl
  have d1 : w2.cell? ⟨b, 1, none⟩ = some u := by rw [Lib.cell_of_heap hb2]; rfl
  have f1 : w2.frozen? ⟨b, 1, none⟩ = false := Lib.frozen_of_heap hb2 1
  obtain ⟨ao, n', cap, rfl⟩ : ∃ ao n' cap, v' = .slice ao n' cap := by
    rcases hown'.2 with ⟨hv, _⟩ | ⟨g, cap, cur, fz, hv, _⟩
    · exact ⟨_, _, _, hv⟩
    · exact ⟨_, _, _, hv⟩
  go_wp2
  go_ret2
  refine ⟨⟨_, rfl⟩, ?_, ?_⟩
  · exact Lib.BuilderAtF.put (T := 80) (e := 5) hB hb2 (bs' := bs ++ cellsB l) (by simpa [cellsB_length] using hown') (by decide)
  · exact ((Below.refl B w).grown hgrow (by omega) (fun k hk => (hown.lt k hk).1)).setCell (p := ⟨b, 1, none⟩) hB _
end Go.Proofs.YtiodaahncadodaaGreatDoor
/- The contract of refs.Decode. -/
namespace Go.Proofs.YtiodaahncadodaaGreatDoor
open Go.RowKit
theorem index_cases (l : List UInt8) (c : UInt8) : (Lib.indexByte l c = -1 ∧ c ∉ l) ∨ ∃ p t, l = p ++ c :: t ∧ c ∉ p ∧ Lib.indexByte l c = (p.length : Int) := by
  induction l with
  | nil => exact .inl ⟨rfl, by simp⟩
  | cons b l ih =>
    rw [Lib.indexByte]
    by_cases h : b = c
    · subst h
      exact .inr ⟨[], l, rfl, by simp, by simp⟩
    · have hn : (b == c) = false := beq_eq_false_iff_ne.2 h
      rw [hn]
      rcases ih with ⟨h1, h2⟩ | ⟨p, t, h1, h2, h3⟩
      · left
        rw [h1]
        exact ⟨rfl, by simp [h2]; exact fun e => h e.symm⟩
      · right
        have hq : ((p.length : Int) == -1) = false := by rw [beq_eq_false_iff_ne]; omega
        refine ⟨b :: p, t, by rw [h1]; rfl, by simp [h2]; exact fun e => h e.symm, ?_⟩
        rw [h3, hq]
        simp
theorem IndexByte_l (l : List UInt8) (n : Int) (h : Lib.indexByte l 38 = n) (w : World) :
    Calls Tryz.prog 148 #[.string (str l), .int .u8 38] w fun e w' => e = .returned (.int .i64 n) ∧ w' = w := by
  have h1 := Tryz.strings_IndexByte (str l) 38 w
  rw [str_data, show (38 : Int).toNat.toUInt8 = 38 from rfl, h] at h1
  exact h1
/-- One sign put behind nothing. -/
theorem Put_one (c : Int) (w : World) (hc : inR c) :
    Calls Tryz.prog 151 #[.slice none 0 0, .slice (some ⟨w.heap.size, 0, none⟩) 1 1] (w.alloc (.cells #[.int .i32 c] 21)) fun e w' => ∃ v', e = .returned v' ∧ OwnsBytes w' w.heap.size v' (Lib.encodeRune c) ∧ Below w.heap.size w w' := by
  refine (Put_any _ _ [] [c] _ (by decide) (by simp) (ReadsCells.nil _) (.inr ⟨w.heap.size, 0, 1, rfl, Nat.le_refl _, ?_⟩) ?_).mono ?_
  · intro j x hj
    match j, hj with
    | 0, hj =>
      cases hj
      rw [Nat.zero_add, Lib.cell_of_heap (heap_new w _)]
      rfl
    | (j + 1), hj => simp [cellsR] at hj
  · intro x hx
    rw [List.mem_singleton.1 hx]
    exact hc
  · rintro e w' ⟨v', rfl, ho, hb⟩
    have e1 : [] ++ puts [c] = Lib.encodeRune c := by simp [puts]
    rw [e1] at ho
    refine ⟨v', rfl, ?_, (((Below.refl _ w).alloc (Nat.le_refl _) _).trans (hb.mono (by simp)))⟩
    refine ⟨ho.1, ?_⟩
    rcases ho.2 with h | ⟨g, cap, cur, h1, h2, h3⟩
    · exact .inl h
    · refine .inr ⟨g, cap, cur, h1, Nat.le_trans ?_ h2, h3⟩
      simp
def textLen : Value → Nat
  | .string s => s.size
  | _ => 0
/-- What a round of Decode begins with. -/
def DecAt (a : Bool) (l : List UInt8) (w : World) (x : Value) (wr : World) : Prop :=
  ∃ r acc : List UInt8, x = .string (str r) ∧ acc.length + 4 * r.length ≤ 4 * l.length ∧ Lib.IsBuilderF 80 5 w.heap.size w.heap.size (Lib.byteCells acc) wr ∧ Below w.heap.size w wr ∧ Hid (acc ++ Rf.dec a r = Rf.dec a l)
theorem str_front (p r : List UInt8) : (str (p ++ r)).extract 0 p.length = str p := by rw [str_to, List.take_left]
theorem str_back (p r : List UInt8) : (str (p ++ r)).extract p.length (p ++ r).length = str r := by rw [str_from, List.drop_left]
set_option maxHeartbeats 2000000 in
set_option maxRecDepth 100000 in
theorem Decode_any (l : List UInt8) (a : Bool) (w : World) (hz : l.length ≤ 100000000) (hW : Win w) :
    Calls Tryz.prog 121 #[.string (str l), .bool a] w fun e w' => e = .returned (.string (str (Rf.dec a l))) ∧ Below w.heap.size w w' := by
  go_enter Tryz.func121, Tryz.ntmps121
  go_wp2
  go_loopw [0] (fun x wr => DecAt a l w x wr) (fun x _ => textLen x)
  case atStart => exact ⟨l, [], rfl, by simp, Lib.IsBuilderF.of (Lib.fresh_isBuilder 80 5 w), (Below.refl _ w).alloc (Nat.le_refl _) _, rfl⟩
  case round =>
    obtain ⟨r, acc, rfl, hacc, hI, hbw, HE⟩ := hrel
    have hwz := hbw.size
    have hsr := str_size r
    rcases index_cases r 38 with ⟨hx, hno⟩ | ⟨p, t, hr, hp, hx⟩
    · have hX := IndexByte_l r (-1) hx
      have HF : Hid (acc ++ r = Rf.dec a l) := by
        show _ = _
        rw [← HE.out, Rf.dec_plain a r hno]
      clear hx hno HE
      go_wp2_with fail
      go_at_call 148
      refine (hX _).mono ?_
      rintro e w1 ⟨rfl, hw⟩
      rw [hw]
      clear hw
      go_wp2_with fail
      go_at_call 101
      refine (WriteString_k w.heap.size w.heap.size _ _ _ hI (by rw [Lib.byteCells_length, str_size]; omega) hwz).mono ?_
      rintro e W1 ⟨rfl, h1, b1, k1⟩
      have hs1 := b1.size
      have h1' : Lib.IsBuilderF 80 5 w.heap.size w.heap.size (Lib.byteCells (acc ++ r)) W1 := by
        rw [Lib.byteCells_append]
        refine Or.inr ?_
        have e1 : Lib.strCells (str r) = Lib.byteCells r := by rw [← str_data r]; rfl
        rw [← e1]
        exact h1
      go_wp2_with fail
      go_at_call 43
      refine (Tryz.Builder_String_any_k w.heap.size w.heap.size (acc ++ r) _ h1' (by omega)).mono ?_
      rintro e W2 ⟨rfl, _, b2, _⟩
      go_wp2
      go_ret
      exact ⟨by rw [← HF.out]; rfl, (hbw.trans b1).trans b2⟩
    · have hX := IndexByte_l r p.length hx
      have he1 : (str r).extract 0 p.length = str p := by rw [hr]; exact str_front p _
      have he2 : (str r).extract p.length r.length = str (38 :: t) := by
        have := str_back p (38 :: t)
        rw [← hr] at this
        exact this
      have hlen : p.length + (t.length + 1) = r.length := by rw [hr, List.length_append, List.length_cons]
      have hse : (str (38 :: t)).size = t.length + 1 := str_size _
      have hnl := Rf.nx_len a (38 :: t)
      have hnb := Rf.nx_bd a (38 :: t)
      have HS : Hid (acc ++ p ++ Rf.dec a (38 :: t) = Rf.dec a l) := by
        show _ = _
        rw [← HE.out, hr, Rf.dec_part a p _ hp, List.append_assoc]
      have HY : Hid ((Rf.nx a (38 :: t)).2.2 = true → Rf.dec a (38 :: t) = Go.Lib.encodeRune (Rf.nx a (38 :: t)).1 ++ Rf.dec a ((38 :: t).drop (Rf.nx a (38 :: t)).2.1)) := Rf.dec_nx a (38 :: t)
      have HN : Hid ((Rf.nx a (38 :: t)).2.2 = false → Rf.dec a (38 :: t) = 38 :: Rf.dec a t) := Rf.dec_nx_no a 38 t
      clear hx hp HE hr
      have hNx := Next_any (38 :: t) a
      generalize Rf.nx a (38 :: t) = q at *
      obtain ⟨x, n, b⟩ := q
      simp only at hnl hnb HY HN
      rw [List.length_cons] at hnl
      obtain ⟨hnl1, hnl2⟩ := hnl
      obtain ⟨hnb0, hnb1⟩ := hnb
      have hst1 : (str (38 :: t)).extract 1 (t.length + 1) = str t := str_from (38 :: t) 1
      have hstn : (str (38 :: t)).extract n (t.length + 1) = str ((38 :: t).drop n) := str_from (38 :: t) n
      go_wp2_with fail
      go_at_call 148
      refine (hX _).mono ?_
      rintro e w1 ⟨rfl, hw⟩
      rw [hw]
      clear hw
      go_wp2_with fail
      go_at_call 101
      refine (WriteString_k w.heap.size w.heap.size _ _ _ hI (by rw [Lib.byteCells_length, str_size]; omega) hwz).mono ?_
      rintro e W1 ⟨rfl, h1, b1, k1⟩
      have hs1 := b1.size
      have hB1 := hbw.trans b1
      have h1' : Lib.BuilderAtF 80 5 w.heap.size w.heap.size (.pointer (some ⟨w.heap.size, 0, none⟩)) (Lib.byteCells (acc ++ p)) W1 := by
        rw [Lib.byteCells_append]
        have e1 : Lib.strCells (str p) = Lib.byteCells p := by rw [← str_data p]; rfl
        rw [← e1]
        exact h1
      have hW1 := hW.below hB1
      clear h1
      go_wp2_with fail
      go_at_call 149
      refine (hNx _ (by rw [List.length_cons]; omega) hW1).mono ?_
      rintro e W2 ⟨rfl, b2⟩
      have hs2 := b2.size
      have hB2 := hB1.trans (b2.mono (by omega))
      have h2 := builder_below h1' b2
      clear h1' hW1
      unfold nxV
      simp only
      cases b
      · have HN' := HN.out rfl
        have HF : Hid (acc ++ p ++ Lib.encodeRune 38 ++ Rf.dec a t = Rf.dec a l) := by
          show _ = _
          rw [← HS.out, HN', show Lib.encodeRune 38 = [38] from by decide +kernel]
          simp
        clear HY HN HS HN'
        go_wp2_with fail
        go_at_call 151
        refine (Put_one 38 W2 (by unfold inR; omega)).mono ?_
        rintro e W3 ⟨v3, rfl, ho3, b3⟩
        have hs3 := b3.size
        have h3 := builder_below h2 b3
        have hen := Utf.enc_len 38
        go_wp2_with fail
        go_at_call 150
        refine (Write_used w.heap.size w.heap.size _ v3 (Lib.encodeRune 38) W3 h3 ho3.reads hen.2 (by omega) (by rw [Lib.byteCells_length, List.length_append]; omega) (by omega)).mono ?_
        rintro e W4 ⟨⟨u4, rfl⟩, h4, b4⟩
        go_wp2
        go_roundw
        case rel =>
          refine ⟨t, acc ++ p ++ Lib.encodeRune 38, by first | rfl | (rw [hst1]), ?_, ?_, ((hB2.trans (b3.mono (by omega))).trans b4), HF⟩
          · simp only [List.length_append]; omega
          · rw [Lib.byteCells_append]
            exact .inr h4
        case measure => simp only [textLen, str_size]; omega
      · have HY' := HY.out rfl
        have HF : Hid (acc ++ p ++ Lib.encodeRune x ++ Rf.dec a ((38 :: t).drop n) = Rf.dec a l) := by
          show _ = _
          rw [← HS.out, HY']
          simp only [List.append_assoc]
        have hn1 := hnl2 rfl
        clear HY HN HS HY'
        go_wp2_with fail
        go_at_call 151
        refine (Put_one x W2 (by unfold inR; omega)).mono ?_
        rintro e W3 ⟨v3, rfl, ho3, b3⟩
        have hs3 := b3.size
        have h3 := builder_below h2 b3
        have hen := Utf.enc_len x
        go_wp2_with fail
        go_at_call 150
        refine (Write_used w.heap.size w.heap.size _ v3 (Lib.encodeRune x) W3 h3 ho3.reads hen.2 (by omega) (by rw [Lib.byteCells_length, List.length_append]; omega) (by omega)).mono ?_
        rintro e W4 ⟨⟨u4, rfl⟩, h4, b4⟩
        go_wp2
        go_roundw
        case rel =>
          refine ⟨(38 :: t).drop n, acc ++ p ++ Lib.encodeRune x, by first | rfl | (rw [hstn]), ?_, ?_, ((hB2.trans (b3.mono (by omega))).trans b4), HF⟩
          · simp only [List.length_append, List.length_drop, List.length_cons]; omega
          · rw [Lib.byteCells_append]
            exact .inr h4
        case measure => simp only [textLen, str_size, List.length_drop, List.length_cons]; omega
end Go.Proofs.YtiodaahncadodaaGreatDoor
