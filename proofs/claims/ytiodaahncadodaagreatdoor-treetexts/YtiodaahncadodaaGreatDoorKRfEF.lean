/- Texts laid as one. -/
import Derived.Test.YtiodaahncadodaaGreatDoorKRfA
import Derived.Test.YtiodaahncadodaaGreatDoorKUPut
import Derived.Lib.LaidTab
/- Contracts of cmp.Or at signs, signOf, Name and Number, and of the reference's Number. -/
set_option linter.unusedVariables false
set_option linter.unusedSimpArgs false
namespace Go.Proofs.YtiodaahncadodaaGreatDoor
open Go.RowKit
def orL : List Int → Int
  | [] => 0
  | a :: r => if a ≠ 0 then a else orL r
theorem orL_next (cs : List Int) (k : Nat) (h : k < cs.length) (hz : cs[k] = 0) : orL (cs.drop (k + 1)) = orL (cs.drop k) := by
  rw [List.drop_eq_getElem_cons h, orL, hz]
  simp
theorem orL_here (cs : List Int) (k : Nat) (h : k < cs.length) (hz : cs[k] ≠ 0) : orL (cs.drop k) = cs[k] := by
  rw [List.drop_eq_getElem_cons h, orL, if_pos hz]
set_option maxHeartbeats 1000000 in
set_option maxRecDepth 100000 in
theorem Or_any (b : Nat) (cs : List Int) (w : World) (hy : cs.length ≤ 1000000000) (hu : ∀ (j : Nat) c, cs[j]? = some c → w.cell? ⟨b, j, none⟩ = some (.int .i32 c)) :
    Calls Tryz.prog 205 #[.slice (some ⟨b, 0, none⟩) cs.length cs.length] w fun e w' => e = .returned (.int .i32 (orL cs)) ∧ w' = w := by
  have HU : Hid (∀ (j : Nat) c, cs[j]? = some c → w.cell? ⟨b, j, none⟩ = some (.int .i32 c)) := hu
  clear hu
  go_enter Tryz.func205, Tryz.ntmps205
  go_wp2
  go_loop [8] (fun i => ∃ k : Nat, k ≤ cs.length ∧ i = .int .i64 k ∧ Hid (orL (cs.drop k) = orL cs)) (fun i => cs.length - (intOf i).toNat)
  case atStart => exact ⟨0, Nat.zero_le _, rfl, rfl⟩
  case round =>
    obtain ⟨k, hk, rfl, HE⟩ := hrel
    by_cases hlt : k < cs.length
    · have hcell := HU.out k cs[k] (List.getElem?_eq_getElem hlt)
      by_cases hz : cs[k] = 0
      · have HN : Hid (orL (cs.drop (k + 1)) = orL cs) := (orL_next cs k hlt hz).trans HE.out
        rw [hz] at hcell
        go_wp2
        go_round
        case rel => exact ⟨k + 1, by omega, by go_num, HN⟩
        case measure => simp [intOf]; omega
      · have HN : Hid (orL cs = cs[k]) := HE.out.symm.trans (orL_here cs k hlt hz)
        generalize cs[k] = c at hcell hz HN
        have hz2 : (c == 0) = false := beq_eq_false_iff_ne.2 hz
        go_wp2
        go_ret
        exact ⟨ret_int HN.out.symm, rfl⟩
    · have HN : Hid (orL cs = 0) := by
        show _ = _
        rw [← HE.out, List.drop_eq_nil_of_le (by omega)]
        rfl
      go_wp2
      go_ret
      exact ⟨ret_int HN.out.symm, rfl⟩
theorem or_four (a b c d : Int) : orL [a, b, c, d] = Rf.or1 a (Rf.or1 b (Rf.or1 c d)) := by
  unfold Rf.or1
  simp only [orL]
  repeat' split
  all_goals simp_all
theorem four_cells (w : World) (a b c d : Int) (T : Nat) : ∀ (j : Nat) x, [a, b, c, d][j]? = some x → (w.alloc (.cells #[.int .i32 a, .int .i32 b, .int .i32 c, .int .i32 d] T)).cell? ⟨w.heap.size, j, none⟩ = some (.int .i32 x) := by
  intro j x hj
  have hlt : j < 4 := (List.getElem?_eq_some_iff.1 hj).1
  unfold World.cell?
  rw [heap_new]
  match j, hlt with
  | 0, _ | 1, _ | 2, _ | 3, _ => simp at hj; subst hj; rfl
set_option maxHeartbeats 1000000 in
set_option maxRecDepth 100000 in
theorem signOf_any (l : List UInt8) (w : World) :
    Calls Tryz.prog 201 #[.string (str l)] w fun e w' => e = .returned (.int .i32 (Rf.sgn l)) ∧ Below w.heap.size w w' := by
  have h1 := shortSign_any l
  have h2 := markSign_any l
  have h3 := letterSign_any l
  have h4 := wideSign_any l
  rw [← Rf.sgn_or l]
  generalize Rf.look Rf.shortT l = a at h1
  generalize Rf.look Rf.markT l = b at h2
  generalize Rf.look Rf.letterT l = c at h3
  generalize Rf.look Rf.wideT l = d at h4
  have h5 := Or_any w.heap.size [a, b, c, d] (w.alloc (.cells #[.int .i32 a, .int .i32 b, .int .i32 c, .int .i32 d] 21)) (by simp) (four_cells w a b c d _)
  rw [or_four] at h5
  generalize Rf.or1 a (Rf.or1 b (Rf.or1 c d)) = x at h5
  go_enter Tryz.func201, Tryz.ntmps201
  go_wp2_with (first
    | (go_at_call 196; refine (h1 _).mono ?_; rintro e w1 ⟨rfl, hw⟩; rw [hw]; clear hw)
    | (go_at_call 206; refine (h2 _).mono ?_; rintro e w1 ⟨rfl, hw⟩; rw [hw]; clear hw)
    | (go_at_call 207; refine (h3 _).mono ?_; rintro e w1 ⟨rfl, hw⟩; rw [hw]; clear hw)
    | (go_at_call 208; refine (h4 _).mono ?_; rintro e w1 ⟨rfl, hw⟩; rw [hw]; clear hw)
    | (go_at_call 205; refine h5.mono ?_; rintro e w1 ⟨rfl, hw⟩; rw [hw]; clear hw))
  go_ret
  exact ⟨rfl, (Below.refl _ w).alloc (Nat.le_refl _) _⟩
set_option maxHeartbeats 400000 in
theorem Name_any (l : List UInt8) (w : World) :
    Calls Tryz.prog 195 #[.string (str l)] w fun e w' => e = .returned (.tuple #[.int .i32 (Rf.sgn l), .bool (Rf.sgn l != 0)]) ∧ Below w.heap.size w w' := by
  have h1 := signOf_any l
  generalize Rf.sgn l = x at h1
  go_enter Tryz.func195, Tryz.ntmps195
  go_wp2_with (go_at_call 201; refine (h1 _).mono ?_; rintro e w1 ⟨rfl, hb1⟩)
  go_ret2
  exact ⟨ret_pair rfl (by first | rfl | simp [bne]), hb1⟩
/-! ### numbers -/
def Win (w : World) : Prop := Lib.TabIs Tryz.prog w "cringle/refs.windows" .i32 Rf.windows
theorem gWin : Tryz.prog.globalNamed "cringle/refs.windows" = some 3 := by kernel_rfl
theorem Win.cell {w : World} (h : Win w) (k : Nat) (hk : k < 32) : w.cell? ⟨3, k, none⟩ = some (.int .i32 (Rf.win k)) := Lib.TabIs.cell h gWin k hk
theorem Win.lt {w : World} (h : Win w) : 3 < w.heap.size := cell_lt (h.cell 0 (by decide))
theorem Win.below {w w' : World} (h : Win w) (hb : Below w.heap.size w w') : Win w' := var?_below hb gWin h.lt h
theorem sign_none {n : Int} (h : n = 0 ∨ 1114111 < n ∨ (55296 ≤ n ∧ n ≤ 57343)) : Rf.numSign n = 65533 := by unfold Rf.numSign; rw [if_pos h]
theorem sign_self {n : Int} (h : ¬ (n = 0 ∨ 1114111 < n ∨ (55296 ≤ n ∧ n ≤ 57343))) (h2 : ¬ (128 ≤ n ∧ n ≤ 159)) : Rf.numSign n = n := by unfold Rf.numSign; rw [if_neg h, if_neg (by omega)]
theorem sign_win {k : Nat} (h : k < 32) (h2 : Rf.win k ≠ 0) : Rf.numSign ((k : Int) + 128) = Rf.win k := by
  unfold Rf.numSign
  rw [if_neg (by omega), show ((k : Int) + 128 - 128).toNat = k from by omega, if_pos ⟨by omega, by omega, h2⟩]
theorem sign_gap {k : Nat} (h : k < 32) (h2 : Rf.win k = 0) : Rf.numSign ((k : Int) + 128) = (k : Int) + 128 := by
  unfold Rf.numSign
  rw [if_neg (by omega), show ((k : Int) + 128 - 128).toNat = k from by omega, if_neg (by simp [h2])]
theorem sign_cases (n : Int) (h0 : 0 ≤ n) : (Rf.numSign n = 65533 ∧ (n = 0 ∨ (55296 ≤ n ∧ n ≤ 57343) ∨ 1114111 < n)) ∨ (Rf.numSign n = n ∧ ((0 < n ∧ n < 128) ∨ (159 < n ∧ n < 55296) ∨ (57343 < n ∧ n ≤ 1114111))) ∨ ∃ k : Nat, n = (k : Int) + 128 ∧ k < 32 := by
  by_cases h : n = 0 ∨ 1114111 < n ∨ (55296 ≤ n ∧ n ≤ 57343)
  · exact .inl ⟨sign_none h, by omega⟩
  · by_cases h2 : 128 ≤ n ∧ n ≤ 159
    · exact .inr (.inr ⟨(n - 128).toNat, by omega, by omega⟩)
    · exact .inr (.inl ⟨sign_self h h2, by omega⟩)
set_option maxHeartbeats 1000000 in
set_option maxRecDepth 100000 in
theorem Number11_any (n : Int) (w : World) (h0 : 0 ≤ n) (h1 : n ≤ 4294967295) (hW : Win w) :
    Calls Tryz.prog 193 #[.int .u32 n] w fun e w' => e = .returned (.int .i32 (Rf.numSign n)) ∧ w' = w := by
  rcases sign_cases n h0 with ⟨hv, h⟩ | ⟨hv, h⟩ | ⟨k, rfl, hk⟩
  · rw [hv]
    clear hv hW
    rcases h with rfl | ⟨ha, hb⟩ | h
    all_goals
      go_enter Tryz.func193, Tryz.ntmps193
      go_wp2
      go_ret
      exact ⟨rfl, rfl⟩
  · have HV : Hid (Rf.numSign n = n) := hv
    clear hv hW
    rcases h with ⟨ha, hb⟩ | ⟨ha, hb⟩ | ⟨ha, hb⟩
    all_goals
      go_enter Tryz.func193, Tryz.ntmps193
      go_wp2
      go_ret
      exact ⟨ret_int (by rw [HV.out]), rfl⟩
  · have hc := hW.cell k hk
    have hn1 : (128 : Int) ≤ (k : Int) + 128 := by omega
    have hn2 : (k : Int) + 128 ≤ 159 := by omega
    clear hW
    by_cases hz : Rf.win k = 0
    · rw [hz] at hc
      rw [sign_gap hk hz]
      clear hz
      rw [show k = ((k : Int) + 128 - 128).toNat from by omega] at hc
      generalize (k : Int) + 128 = n at *
      go_enter Tryz.func193, Tryz.ntmps193
      go_wp2
      go_ret
      exact ⟨ret_int (by first | rfl | omega), rfl⟩
    · rw [sign_win hk hz]
      have hz2 : (Rf.win k == 0) = false := beq_eq_false_iff_ne.2 hz
      generalize Rf.win k = x at hc hz hz2
      rw [show k = ((k : Int) + 128 - 128).toNat from by omega] at hc
      generalize (k : Int) + 128 = n at *
      go_enter Tryz.func193, Tryz.ntmps193
      go_wp2
      go_ret
      exact ⟨ret_int (by first | rfl | omega), rfl⟩
end Go.Proofs.YtiodaahncadodaaGreatDoor
/- The contract of refs.number. -/
namespace Go.Proofs.YtiodaahncadodaaGreatDoor
open Go.RowKit
theorem Pre {l p : List UInt8} {b : Bool} (h : p.isPrefixOf l = b) (w : World) :
    Calls Tryz.prog 127 #[.string (str l), .string (str p)] w fun e w' => e = .returned (.bool b) ∧ w' = w := by
  have := HasPrefix_l l p w
  rw [h] at this
  exact this
theorem str_mid (l : List UInt8) (f n : Nat) : (str l).extract f (f + n) = str ((l.drop f).take n) := by
  apply str_eq
  rw [data_cut, str_data, List.drop_take]
  congr 1
  omega
theorem digs_take (t : List UInt8) : (t.drop (Rf.fr (Rf.isHx t))).take (Rf.digs t).length = Rf.digs t := by
  unfold Rf.digs
  generalize t.drop (Rf.fr (Rf.isHx t)) = u
  generalize Rf.dOk (Rf.isHx t) = p
  induction u with
  | nil => rfl
  | cons c r ih =>
    rw [List.takeWhile_cons]
    cases h : p c
    · rfl
    · simp [ih]
theorem digs_len (t : List UInt8) (h : [35].isPrefixOf t = true) : Rf.fr (Rf.isHx t) + (Rf.digs t).length ≤ t.length := by
  have h1 : (Rf.digs t).length ≤ (t.drop (Rf.fr (Rf.isHx t))).length := by
    rw [← digs_take t, List.length_take]; omega
  have h2 : Rf.fr (Rf.isHx t) ≤ t.length := by
    cases hx : Rf.isHx t
    · obtain ⟨r, rfl⟩ := List.isPrefixOf_iff_prefix.1 h
      simp [Rf.fr]
    · unfold Rf.isHx at hx
      rw [Bool.or_eq_true] at hx
      rcases hx with hx | hx
      · obtain ⟨r, rfl⟩ := List.isPrefixOf_iff_prefix.1 hx
        simp [Rf.fr]
      · obtain ⟨r, rfl⟩ := List.isPrefixOf_iff_prefix.1 hx
        simp [Rf.fr]
  rw [List.length_drop] at h1
  omega
set_option maxHeartbeats 1000000 in
set_option maxRecDepth 100000 in
theorem number_not (t : List UInt8) (w : World) (h : [35].isPrefixOf t = false) :
    Calls Tryz.prog 176 #[.string (str t)] w fun e w' => e = .returned (.tuple #[.int .i32 (Rf.numSg t), .int .i64 (Rf.numSz t)]) ∧ w' = w := by
  have h0 := Pre h
  rw [(Rf.not_hash t h).1, (Rf.not_hash t h).2]
  clear h
  go_enter Tryz.func176, Tryz.ntmps176
  go_wp2_with (go_at_call 127; refine (h0 _).mono ?_; rintro e w1 ⟨rfl, hw⟩; rw [hw]; clear hw)
  go_ret2
  exact ⟨rfl, rfl⟩
end Go.Proofs.YtiodaahncadodaaGreatDoor
/- The contract of refs.number. -/
namespace Go.Proofs.YtiodaahncadodaaGreatDoor
open Go.RowKit
set_option maxHeartbeats 2000000 in
set_option maxRecDepth 100000 in
theorem number_dec (t : List UInt8) (w : World) (hz : t.length ≤ 1000000000) (hW : Win w) (h : [35].isPrefixOf t = true) (h1 : [35,120].isPrefixOf t = false) (h2 : [35,88].isPrefixOf t = false) :
    Calls Tryz.prog 176 #[.string (str t)] w fun e w' => e = .returned (.tuple #[.int .i32 (Rf.numSg t), .int .i64 (Rf.numSz t)]) ∧ w' = w := by
  have hb : Rf.isHx t = false := by unfold Rf.isHx; rw [h1, h2]; rfl
  have hl := digs_len t h
  have ht := digs_take t
  have hsz := str_size t
  have HZ : Hid (Rf.numSz t = if Rf.isNo t = true then 1 + (Rf.digs t).length + Rf.semi (t.drop (1 + (Rf.digs t).length)) else 0) := by
    show _ = _
    unfold Rf.numSz
    rw [hb]
    rfl
  have HG : Hid (Rf.numSg t = if Rf.isNo t = true then Rf.numSign (Rf.decCap (Rf.digs t)) else 0) := by
    show _ = _
    unfold Rf.numSg
    rw [hb]
    rfl
  have HV : Hid (Rf.digs t ≠ [] → 0 ≤ Rf.decCap (Rf.digs t) ∧ Rf.decCap (Rf.digs t) ≤ 4294967295) := by
    intro hd
    have := Rf.val_bd t hd
    rw [hb] at this
    exact this
  have HI : Hid (Rf.isNo t = !(Rf.digs t).isEmpty) := by
    show _ = _
    unfold Rf.isNo
    rw [h]
    rfl
  have hR : ∀ W, Calls Tryz.prog 192 #[.string (str (t.drop 1)), .func (.func 188) #[] #[]] W fun e w' => e = .returned (.int .i64 (Rf.digs t).length) ∧ w' = W := by
    intro W
    have := run_dig (str (t.drop 1)) W (by rw [str_size, List.length_drop]; omega)
    rw [str_data] at this
    unfold Rf.digs
    rw [hb]
    exact this
  rw [hb] at hl ht
  have ht' : (t.drop 1).take (Rf.digs t).length = Rf.digs t := ht
  have hl' : 1 + (Rf.digs t).length ≤ t.length := hl
  clear ht hl hb
  have q0 := Pre h
  have q1 := Pre h1
  have q2 := Pre h2
  clear h h1 h2
  have he1 : (str t).extract 1 t.length = str (t.drop 1) := str_from t 1
  have he2 : (str t).extract 1 (1 + (Rf.digs t).length) = str (Rf.digs t) := by rw [str_mid, ht']
  have he3 : (str t).extract (1 + (Rf.digs t).length) t.length = str (t.drop (1 + (Rf.digs t).length)) := str_from t _
  have hr := decimal_any (str (Rf.digs t))
  rw [str_data, str_size] at hr
  clear ht'
  generalize t.drop 1 = u at hR he1
  generalize Rf.digs t = D at *
  generalize hd : D.length = d at *
  by_cases hz0 : d = 0
  · have hD : D = [] := List.eq_nil_of_length_eq_zero (by omega)
    rw [hD] at HI
    have HI' : Hid (Rf.isNo t = false) := HI.out
    subst hz0
    clear hr HV hd HI
    go_enter Tryz.func176, Tryz.ntmps176
    go_wp2_with (first
      | (go_at_call 127; refine (q0 _).mono ?_; rintro e w1 ⟨rfl, hw⟩; rw [hw]; clear hw)
      | (go_at_call 127; refine (q1 _).mono ?_; rintro e w1 ⟨rfl, hw⟩; rw [hw]; clear hw)
      | (go_at_call 127; refine (q2 _).mono ?_; rintro e w1 ⟨rfl, hw⟩; rw [hw]; clear hw)
      | (go_at_call 192; refine (hR _).mono ?_; rintro e w1 ⟨rfl, hw⟩; rw [hw]; clear hw))
    go_ret2
    rw [HG.out, HZ.out, HI'.out]
    exact ⟨rfl, rfl⟩
  · have hD : D ≠ [] := by intro e; rw [e] at hd; simp at hd; omega
    have HI' : Hid (Rf.isNo t = true) := by
      show _ = _
      rw [HI.out]
      cases D with
      | nil => exact absurd rfl hD
      | cons c r => rfl
    have hv := HV.out hD
    have hN := fun W => Number11_any (Rf.decCap D) W hv.1 hv.2
    have HX : Hid (Rf.numSg t = Rf.numSign (Rf.decCap D)) := by
      show _ = _
      rw [HG.out, HI'.out]
      rfl
    have HY : Hid (Rf.numSz t = 1 + d + Rf.semi (t.drop (1 + d))) := by
      show _ = _
      rw [HZ.out, HI'.out]
      rfl
    clear HV HI HI' HG HZ hD hd
    generalize Rf.decCap D = v at *
    generalize Rf.numSign v = sg at *
    generalize t.drop (1 + d) = u2 at *
    cases hs : [59].isPrefixOf u2
    · have q3 := Pre hs
      have HS : Hid (Rf.semi u2 = 0) := by show _ = _; unfold Rf.semi; rw [hs]; rfl
      clear hs
      go_enter Tryz.func176, Tryz.ntmps176
      go_wp2_with (first
        | (go_at_call 127; refine (q0 _).mono ?_; rintro e w1 ⟨rfl, hw⟩; rw [hw]; clear hw)
        | (go_at_call 127; refine (q1 _).mono ?_; rintro e w1 ⟨rfl, hw⟩; rw [hw]; clear hw)
        | (go_at_call 127; refine (q2 _).mono ?_; rintro e w1 ⟨rfl, hw⟩; rw [hw]; clear hw)
        | (go_at_call 127; refine (q3 _).mono ?_; rintro e w1 ⟨rfl, hw⟩; rw [hw]; clear hw)
        | (go_at_call 192; refine (hR _).mono ?_; rintro e w1 ⟨rfl, hw⟩; rw [hw]; clear hw)
        | (go_at_call 189; refine (hr _ (by omega)).mono ?_; rintro e w1 ⟨rfl, hw⟩; rw [hw]; clear hw)
        | (go_at_call 193; refine (hN _ hW).mono ?_; rintro e w1 ⟨rfl, hw⟩; rw [hw]; clear hw))
      go_ret2
      rw [HX.out, HY.out, HS.out]
      exact ⟨by simp, rfl⟩
    · have q3 := Pre hs
      have HS : Hid (Rf.semi u2 = 1) := by show _ = _; unfold Rf.semi; rw [hs]; rfl
      clear hs
      go_enter Tryz.func176, Tryz.ntmps176
      go_wp2_with (first
        | (go_at_call 127; refine (q0 _).mono ?_; rintro e w1 ⟨rfl, hw⟩; rw [hw]; clear hw)
        | (go_at_call 127; refine (q1 _).mono ?_; rintro e w1 ⟨rfl, hw⟩; rw [hw]; clear hw)
        | (go_at_call 127; refine (q2 _).mono ?_; rintro e w1 ⟨rfl, hw⟩; rw [hw]; clear hw)
        | (go_at_call 127; refine (q3 _).mono ?_; rintro e w1 ⟨rfl, hw⟩; rw [hw]; clear hw)
        | (go_at_call 192; refine (hR _).mono ?_; rintro e w1 ⟨rfl, hw⟩; rw [hw]; clear hw)
        | (go_at_call 189; refine (hr _ (by omega)).mono ?_; rintro e w1 ⟨rfl, hw⟩; rw [hw]; clear hw)
        | (go_at_call 193; refine (hN _ hW).mono ?_; rintro e w1 ⟨rfl, hw⟩; rw [hw]; clear hw))
      go_ret2
      rw [HX.out, HY.out, HS.out]
      exact ⟨by simp, rfl⟩
end Go.Proofs.YtiodaahncadodaaGreatDoor
