/- Texts laid as one. -/
import Derived.Test.YtmmpbjpeiclacaaGreatDoorKYdef
import Derived.Laws.BitsLemmas
/- Contracts of the parser's four, sign, escaped. -/
set_option linter.unusedVariables false
set_option linter.unusedSimpArgs false
namespace Go.Proofs.YtmmpbjpeiclacaaGreatDoor
open Go.RowKit
theorem Kept.drewN {b : Nat} {w w' : World} (h : Kept b w w') (q : Nat) : Kept b w (w'.drewN q) := ⟨h.os, h.tape, h.output, h.size, h.block⟩
theorem Ps.drewN {b n : Nat} {s l : List UInt8} {w : World} (h : Ps b s l n w) (q : Nat) : Ps b s l n (w.drewN q) := ⟨h.at_, h.suf, h.len, h.cnt⟩
theorem hex_one (c : UInt8) : (Asc.hexOk (Asc.bt c) = true → Asc.hexNum [c] = Asc.hexV (Asc.bt c) ∧ Asc.hexErr [c] = 0) ∧ (Asc.hexOk (Asc.bt c) = false → Asc.hexNum [c] = 0 ∧ Asc.hexErr [c] = 3) := by
  constructor
  · intro h
    refine Asc.hex_ok [c] _ ⟨by simp [Asc.allHex, h], List.cons_ne_nil _ _⟩ ?_
    have := Asc.hexFold_next [c] 0 0 (by simp) (by omega)
    simp at this
    rw [this]
    exact Asc.hexFold_end [] 0 _ (by simp)
  · intro h
    exact Asc.hex_form [c] fun e => by
      have := e.1
      simp [Asc.allHex, h] at this
theorem Hex_one (c : UInt8) (w : World) :
    Calls Tryz.prog 137 #[.string (str [c])] w fun e w' => e = .returned (.tuple #[.int .u32 (Asc.hexNum [c]), .int .i64 (Asc.hexErr [c])]) ∧ w' = w := by
  have h := Hex_any (str [c]) w (by rw [str_size]; simp)
  rw [str_data] at h
  exact h
theorem four_cons (m k : Nat) (v : Int) (c : UInt8) (r : List UInt8) : Jsn.four m (k + 1) v (c :: r) = if Asc.hexOk (Asc.bt c) = true then Jsn.four m k (v * 16 + Asc.hexV (Asc.bt c)) r else .err 3 m := rfl
theorem suf_one {c : UInt8} {r s : List UInt8} (h : c :: r <:+ s) {p : Nat} (hp : p + (r.length + 1) = s.length) : (str s).extract p (p + 1) = str [c] := by
  obtain ⟨q, rfl⟩ := h
  obtain rfl : p = q.length := by simp at hp; omega
  apply str_eq
  rw [data_cut, str_data, List.take_append]
  simp [List.take_of_length_le]
theorem or_hex32 (n d : Int) (h0 : 0 ≤ n) (h1 : n ≤ 65535) (h2 : 0 ≤ d) (h3 : d ≤ 15) : bits BinOp.or IntKind.i32 (n * 16) d = n * 16 + d :=
  bits_join .i32 31 (by decide) wraps_i32 4 (n * 16) d (by omega) (by omega) (by omega) h2 (by omega) (by omega)
set_option maxHeartbeats 2000000 in
theorem four_any {b n m : Nat} {s l : List UInt8} {w : World} (h : Ps b s l n w) (f : Nat) (hf : f + m = s.length) :
    Calls Tryz.prog 133 #[.pointer (some ⟨b, 0, none⟩), .int .i64 (f : Int)] w fun e w' => Kept b w w' ∧ Ans (Jsn.four m 4 0 l) (fun v r => e = .returned (.int .i32 v) ∧ Ps b s r n w') (fun y k => e = boom s y k) := by
  have hlen := h.len
  have hz := str_size s
  have hpb : .panicked [{ v := .iface 41 (.agg #[.int .i64 3, .int .i64 (f : Int)]), recovered := false }] = boom s 3 m := by
    obtain rfl : f = s.length - m := by omega
    rfl
  generalize hX : Jsn.four m 4 0 l = X
  have HX : Hid (Jsn.four m 4 0 l = X) := hX
  clear hX
  go_enter Tryz.func133, Tryz.ntmps133
  go_wp2
  go_loopw [5, 8] (fun v i wr => ∃ (k : Nat) (x : Int) (z : List UInt8), v = .int .i32 x ∧ i = .int .i64 k ∧ k ≤ 4 ∧ 0 ≤ x ∧ x < 16 ^ k ∧ Ps b s z n wr ∧ Kept b w wr ∧ Hid (Jsn.four m (4 - k) x z = X)) (fun _ i _ => 4 - (intOf i).toNat)
  case atStart => exact ⟨0, 0, l, rfl, rfl, by omega, by omega, by omega, h, Kept.refl _ _, HX.out⟩
  case round =>
    obtain ⟨k, x, z, rfl, rfl, hk, hx0, hx1, hP, hK, HE⟩ := hrel
    by_cases hlt : k < 4
    · obtain ⟨j, hj⟩ : ∃ j, 4 - k = j + 1 := ⟨3 - k, by omega⟩
      have hE := HE.out
      rw [hj] at hE
      cases z with
      | nil =>
        have HY : Hid (X = .err 4 0) := hE.symm
        clear hE HE
        go_wp2_with (first
          | (go_at_call 100; refine (peek_end hP).mono ?_; rintro e w1 ⟨rfl, hK1⟩))
        exact ⟨rfl, hK.trans hK1, by rw [HY.out]; rfl⟩
      | cons c r =>
        rw [four_cons] at hE
        have hb := Asc.hexV_bd (Asc.bt c)
        have hx2 : x < 65536 := by
          have : (16 : Int) ^ k ≤ 4096 := by
            match k, hlt with
            | 0, _ => decide
            | 1, _ => decide
            | 2, _ => decide
            | 3, _ => decide
          omega
        cases hc : Asc.hexOk (Asc.bt c)
        · have HY : Hid (X = .err 3 m) := by show _ = _; rw [← hE, hc]; rfl
          have hh := (hex_one c).2 hc
          have hH := fun w => Hex_one c w
          rw [hh.1, hh.2] at hH
          clear hE HE hh hc
          go_wp2_with (first
            | (go_at_call 100; refine (peek_ok hP).mono ?_; rintro e w1 ⟨rfl, hP1, hK1⟩; obtain ⟨p, hp, c1⟩ := hP1.c1; simp only [List.length_cons] at hp; have c0 := hP1.c0; have hcut := suf_one hP1.suf hp))
          have b1 : (0 : Int) ≤ (p : Int) := by omega
          have b2 : (p : Int) + 1 ≤ (s.length : Int) := by omega
          have b3 : (p : Int) ≤ (p : Int) + 1 := by omega
          have hwr : IntKind.i64.wrap ((p : Int) + 1) = (p : Int) + 1 := by rw [IntKind.wrap_i64]; omega
          have ht : ((p : Int) + 1).toNat = p + 1 := by omega
          go_quiet ((go_at_call 137; exact Calls.quiet_of_same (hH _)))
          go_wp2
          exact ⟨rfl, (hK.trans hK1).drewN nq, by rw [HY.out]; exact hpb⟩
        · have HY : Hid (Jsn.four m (4 - (k + 1)) (x * 16 + Asc.hexV (Asc.bt c)) r = X) := by
            show _ = _
            rw [← hE, hc, show 4 - (k + 1) = j from by omega]
            rfl
          have hh := (hex_one c).1 hc
          have hH := fun w => Hex_one c w
          rw [hh.1, hh.2] at hH
          clear hE HE hh hc
          generalize Asc.hexV (Asc.bt c) = d at *
          go_wp2_with (first
            | (go_at_call 100; refine (peek_ok hP).mono ?_; rintro e w1 ⟨rfl, hP1, hK1⟩; obtain ⟨p, hp, c1⟩ := hP1.c1; simp only [List.length_cons] at hp; have c0 := hP1.c0; have f1 := hP1.free 1; have hcut := suf_one hP1.suf hp))
          have b1 : (0 : Int) ≤ (p : Int) := by omega
          have b2 : (p : Int) + 1 ≤ (s.length : Int) := by omega
          have b3 : (p : Int) ≤ (p : Int) + 1 := by omega
          have hwr : IntKind.i64.wrap ((p : Int) + 1) = (p : Int) + 1 := by rw [IntKind.wrap_i64]; omega
          have ht : ((p : Int) + 1).toNat = p + 1 := by omega
          go_quiet ((go_at_call 137; exact Calls.quiet_of_same (hH _)))
          have hor : bits BinOp.or IntKind.i32 (x * 16) d = x * 16 + d := or_hex32 x d hx0 (by omega) hb.1 hb.2
          go_wp2
          go_roundw
          case rel =>
            refine ⟨k + 1, x * 16 + d, r, by first | rfl | rw [hor], by go_num, by omega, by omega, ?_, (hP1.drewN nq).tail p hp, ((hK.trans hK1).drewN nq).trans (Kept.set _ _ _ _), HY⟩
            have : (16 : Int) ^ (k + 1) = 16 ^ k * 16 := Int.pow_succ _ _
            omega
          case measure => simp [intOf]; omega
    · obtain rfl : k = 4 := by omega
      have HY : Hid (X = .ok x z) := HE.out.symm
      go_wp2
      go_ret
      rw [HY.out]
      exact ⟨hK, rfl, hP⟩
/-- Four hex digits are a number below 65536. -/
theorem four_bd (m : Nat) : ∀ (k : Nat) (v : Int) (l r : List UInt8) (x : Int), 0 ≤ v → Jsn.four m k v l = .ok x r → 0 ≤ x ∧ x < (v + 1) * 16 ^ k
  | 0, v, l, r, x, hv, h => by cases h; exact ⟨hv, by simp; omega⟩
  | k + 1, v, [], r, x, hv, h => by cases h
  | k + 1, v, c :: l, r, x, hv, h => by
    rw [four_cons] at h
    split at h
    · have hb := Asc.hexV_bd (Asc.bt c)
      have := four_bd m k _ l r x (by omega) h
      refine ⟨this.1, Int.lt_of_lt_of_le this.2 ?_⟩
      have e : (v + 1) * 16 ^ (k + 1) = ((v + 1) * 16) * 16 ^ k := by rw [Int.pow_succ, Int.mul_assoc, Int.mul_comm (16 ^ k) 16, ← Int.mul_assoc]
      rw [e]
      exact Int.mul_le_mul_of_nonneg_right (by omega) (Int.pow_nonneg (by decide))
    · cases h
theorem four_bd4 {m : Nat} {l r : List UInt8} {x : Int} (h : Jsn.four m 4 0 l = .ok x r) : 0 ≤ x ∧ x < 65536 := four_bd m 4 0 l r x (by omega) h
theorem must_ok {m : Nat} {c : UInt8} {l r : List UInt8} {u : Unit} (h : Jsn.mustR m c l = .ok u r) : l = c :: r := by
  cases l with
  | nil => cases h
  | cons d t =>
    replace h : (if d = c then (.ok () t : Jsn.R Unit) else .err 3 m) = .ok u r := h
    split at h
    · rename_i e; cases h; rw [e]
    · cases h
theorem must_err {m : Nat} {c : UInt8} {l : List UInt8} {y : Int} {k : Nat} (h : Jsn.mustR m c l = .err y k) : (l = [] ∧ y = 4 ∧ k = 0) ∨ ∃ d t, l = d :: t ∧ d ≠ c ∧ y = 3 ∧ k = m := by
  cases l with
  | nil => cases h; exact .inl ⟨rfl, rfl, rfl⟩
  | cons d t =>
    replace h : (if d = c then (.ok () t : Jsn.R Unit) else .err 3 m) = .err y k := h
    split at h
    · cases h
    · rename_i e; cases h; exact .inr ⟨d, t, rfl, e, rfl, rfl⟩
end Go.Proofs.YtmmpbjpeiclacaaGreatDoor
/- The contract of the parser's sign. -/
set_option linter.unusedVariables false
set_option linter.unusedSimpArgs false
namespace Go.Proofs.YtmmpbjpeiclacaaGreatDoor
open Go.RowKit
set_option maxHeartbeats 2000000 in
theorem sign_any {b n m : Nat} {s l : List UInt8} {w : World} (h : Ps b s l n w) (f : Nat) (hf : f + m = s.length) :
    Calls Tryz.prog 123 #[.pointer (some ⟨b, 0, none⟩), .int .i64 (f : Int)] w fun e w' => Kept b w w' ∧ Ans (Jsn.signR m l) (fun v r => e = .returned (.int .i32 v) ∧ Ps b s r n w') (fun y k => e = boom s y k) := by
  have hlen := h.len
  have hpb : .panicked [{ v := .iface 41 (.agg #[.int .i64 3, .int .i64 (f : Int)]), recovered := false }] = boom s 3 m := by
    obtain rfl : f = s.length - m := by omega
    rfl
  have hF1 := four_any h f hf
  have hX : Jsn.signR m l = (Jsn.four m 4 0 l).bind fun s l1 => if s < 55296 ∨ 57344 ≤ s then .ok s l1 else if 56320 ≤ s then .err 3 m else (Jsn.mustR m 92 l1).bind fun _ l2 => (Jsn.mustR m 117 l2).bind fun _ l3 => (Jsn.four m 4 0 l3).bind fun h l4 => if h < 56320 ∨ 57344 ≤ h then .err 3 m else .ok (65536 + (s - 55296) * 1024 + (h - 56320)) l4 := rfl
  cases hf1 : Jsn.four m 4 0 l with
  | err y k =>
    have hX2 : Jsn.signR m l = .err y k := by rw [hX, hf1]; rfl
    rw [hX2]
    clear hX hX2
    go_enter Tryz.func123, Tryz.ntmps123
    go_wp2_with (first
      | (go_at_call 133; refine hF1.mono ?_; rintro e w1 ⟨hK1, hA1⟩; rw [hf1] at hA1; replace hA1 : e = boom s y k := hA1; subst hA1))
    exact ⟨rfl, hK1, rfl⟩
  | ok x l1 =>
    rw [hf1] at hX
    replace hX : Jsn.signR m l = if x < 55296 ∨ 57344 ≤ x then .ok x l1 else if 56320 ≤ x then .err 3 m else (Jsn.mustR m 92 l1).bind fun _ l2 => (Jsn.mustR m 117 l2).bind fun _ l3 => (Jsn.four m 4 0 l3).bind fun h l4 => if h < 56320 ∨ 57344 ≤ h then .err 3 m else .ok (65536 + (x - 55296) * 1024 + (h - 56320)) l4 := hX
    have hbd := four_bd4 hf1
    by_cases hlo : x < 55296
    · rw [if_pos (.inl hlo)] at hX
      rw [hX]
      clear hX
      go_enter Tryz.func123, Tryz.ntmps123
      go_wp2_with (first
        | (go_at_call 133; refine hF1.mono ?_; rintro e w1 ⟨hK1, hA1⟩; rw [hf1] at hA1; obtain ⟨rfl, hP1⟩ := hA1; clear hF1))
      go_ret
      exact ⟨hK1, rfl, hP1⟩
    by_cases hhi : 57344 ≤ x
    · rw [if_pos (.inr hhi)] at hX
      rw [hX]
      clear hX
      go_enter Tryz.func123, Tryz.ntmps123
      go_wp2_with (first
        | (go_at_call 133; refine hF1.mono ?_; rintro e w1 ⟨hK1, hA1⟩; rw [hf1] at hA1; obtain ⟨rfl, hP1⟩ := hA1; clear hF1))
      go_ret
      exact ⟨hK1, rfl, hP1⟩
    rw [if_neg (by omega)] at hX
    by_cases hsec : 56320 ≤ x
    · rw [if_pos hsec] at hX
      rw [hX]
      clear hX
      go_enter Tryz.func123, Tryz.ntmps123
      go_wp2_with (first
        | (go_at_call 133; refine hF1.mono ?_; rintro e w1 ⟨hK1, hA1⟩; rw [hf1] at hA1; obtain ⟨rfl, hP1⟩ := hA1; clear hF1))
      exact ⟨rfl, hK1, hpb⟩
    rw [if_neg hsec] at hX
    cases hm1 : Jsn.mustR m 92 l1 with
    | err y k =>
      have hX2 : Jsn.signR m l = .err y k := by rw [hX, hm1]; rfl
      rw [hX2]
      clear hX hX2
      rcases must_err hm1 with ⟨rfl, rfl, rfl⟩ | ⟨d, t, rfl, hd, rfl, rfl⟩
      · clear hm1
        go_enter Tryz.func123, Tryz.ntmps123
        go_wp2_with (first
          | (go_at_call 133; refine hF1.mono ?_; rintro e w1 ⟨hK1, hA1⟩; rw [hf1] at hA1; obtain ⟨rfl, hP1⟩ := hA1; clear hF1)
          | (go_at_call 104; refine (next_end hP1).mono ?_; rintro e w2 ⟨rfl, hK2⟩))
        exact ⟨rfl, hK1.trans hK2, rfl⟩
      · clear hm1
        have hne : ((d.toNat : Int) != 92) = true := by rw [bne_iff_ne]; exact fun e => hd (byte_eq_int.1 e)
        go_enter Tryz.func123, Tryz.ntmps123
        go_wp2_with (first
          | (go_at_call 133; refine hF1.mono ?_; rintro e w1 ⟨hK1, hA1⟩; rw [hf1] at hA1; obtain ⟨rfl, hP1⟩ := hA1; clear hF1)
          | (go_at_call 104; refine (next_ok hP1).mono ?_; rintro e w2 ⟨rfl, hP2, hK2⟩))
        exact ⟨rfl, hK1.trans hK2, hpb⟩
    | ok _ l2 =>
      obtain rfl := must_ok hm1
      have hX2 : Jsn.signR m l = (Jsn.mustR m 117 l2).bind fun _ l3 => (Jsn.four m 4 0 l3).bind fun h l4 => if h < 56320 ∨ 57344 ≤ h then .err 3 m else .ok (65536 + (x - 55296) * 1024 + (h - 56320)) l4 := by rw [hX, hm1]; rfl
      clear hX hm1
      cases hm2 : Jsn.mustR m 117 l2 with
      | err y k =>
        have hX3 : Jsn.signR m l = .err y k := by rw [hX2, hm2]; rfl
        rw [hX3]
        clear hX2 hX3
        rcases must_err hm2 with ⟨rfl, rfl, rfl⟩ | ⟨d, t, rfl, hd, rfl, rfl⟩
        · clear hm2
          have hN := fun w (hP : Ps b s [92] n w) => next_ok hP
          go_enter Tryz.func123, Tryz.ntmps123
          go_wp2_with (first
            | (go_at_call 133; refine hF1.mono ?_; rintro e w1 ⟨hK1, hA1⟩; rw [hf1] at hA1; obtain ⟨rfl, hP1⟩ := hA1; clear hF1)
            | (go_at_call 104; refine (hN _ hP1).mono ?_; rintro e w2 ⟨rfl, hP2, hK2⟩; clear hN)
            | (go_at_call 104; refine (next_end hP2).mono ?_; rintro e w3 ⟨rfl, hK3⟩))
          exact ⟨rfl, (hK1.trans hK2).trans hK3, rfl⟩
        · clear hm2
          have hne : ((d.toNat : Int) != 117) = true := by rw [bne_iff_ne]; exact fun e => hd (byte_eq_int.1 e)
          have hN := fun w (hP : Ps b s (92 :: d :: t) n w) => next_ok hP
          go_enter Tryz.func123, Tryz.ntmps123
          go_wp2_with (first
            | (go_at_call 133; refine hF1.mono ?_; rintro e w1 ⟨hK1, hA1⟩; rw [hf1] at hA1; obtain ⟨rfl, hP1⟩ := hA1; clear hF1)
            | (go_at_call 104; refine (hN _ hP1).mono ?_; rintro e w2 ⟨rfl, hP2, hK2⟩; clear hN)
            | (go_at_call 104; refine (next_ok hP2).mono ?_; rintro e w3 ⟨rfl, hP3, hK3⟩))
          exact ⟨rfl, (hK1.trans hK2).trans hK3, hpb⟩
      | ok _ l3 =>
        obtain rfl := must_ok hm2
        have hX3 : Jsn.signR m l = (Jsn.four m 4 0 l3).bind fun h l4 => if h < 56320 ∨ 57344 ≤ h then .err 3 m else .ok (65536 + (x - 55296) * 1024 + (h - 56320)) l4 := by rw [hX2, hm2]; rfl
        clear hX2 hm2
        have hN := fun w (hP : Ps b s (92 :: 117 :: l3) n w) => next_ok hP
        cases hf2 : Jsn.four m 4 0 l3 with
        | err y k =>
          have hX4 : Jsn.signR m l = .err y k := by rw [hX3, hf2]; rfl
          rw [hX4]
          clear hX3 hX4
          go_enter Tryz.func123, Tryz.ntmps123
          go_wp2_with (first
            | (go_at_call 133; refine hF1.mono ?_; rintro e w1 ⟨hK1, hA1⟩; rw [hf1] at hA1; obtain ⟨rfl, hP1⟩ := hA1; clear hF1)
            | (go_at_call 104; refine (hN _ hP1).mono ?_; rintro e w2 ⟨rfl, hP2, hK2⟩; clear hN)
            | (go_at_call 104; refine (next_ok hP2).mono ?_; rintro e w3 ⟨rfl, hP3, hK3⟩)
            | (go_at_call 133; refine (four_any hP3 f hf).mono ?_; rintro e w4 ⟨hK4, hA4⟩; rw [hf2] at hA4; replace hA4 : e = boom s y k := hA4; subst hA4))
          exact ⟨rfl, ((hK1.trans hK2).trans hK3).trans hK4, rfl⟩
        | ok g l4 =>
          have hbd2 := four_bd4 hf2
          rw [hf2] at hX3
          replace hX3 : Jsn.signR m l = if g < 56320 ∨ 57344 ≤ g then .err 3 m else .ok (65536 + (x - 55296) * 1024 + (g - 56320)) l4 := hX3
          by_cases hg : g < 56320 ∨ 57344 ≤ g
          · rw [if_pos hg] at hX3
            rw [hX3]
            clear hX3
            rcases hg with hg | hg
            · skip
              go_enter Tryz.func123, Tryz.ntmps123
              go_wp2_with (first
                | (go_at_call 133; refine hF1.mono ?_; rintro e w1 ⟨hK1, hA1⟩; rw [hf1] at hA1; obtain ⟨rfl, hP1⟩ := hA1; clear hF1)
                | (go_at_call 104; refine (hN _ hP1).mono ?_; rintro e w2 ⟨rfl, hP2, hK2⟩; clear hN)
                | (go_at_call 104; refine (next_ok hP2).mono ?_; rintro e w3 ⟨rfl, hP3, hK3⟩)
                | (go_at_call 133; refine (four_any hP3 f hf).mono ?_; rintro e w4 ⟨hK4, hA4⟩; rw [hf2] at hA4; obtain ⟨rfl, hP4⟩ := hA4))
              exact ⟨rfl, ((hK1.trans hK2).trans hK3).trans hK4, hpb⟩
            · skip
              go_enter Tryz.func123, Tryz.ntmps123
              go_wp2_with (first
                | (go_at_call 133; refine hF1.mono ?_; rintro e w1 ⟨hK1, hA1⟩; rw [hf1] at hA1; obtain ⟨rfl, hP1⟩ := hA1; clear hF1)
                | (go_at_call 104; refine (hN _ hP1).mono ?_; rintro e w2 ⟨rfl, hP2, hK2⟩; clear hN)
                | (go_at_call 104; refine (next_ok hP2).mono ?_; rintro e w3 ⟨rfl, hP3, hK3⟩)
                | (go_at_call 133; refine (four_any hP3 f hf).mono ?_; rintro e w4 ⟨hK4, hA4⟩; rw [hf2] at hA4; obtain ⟨rfl, hP4⟩ := hA4))
              exact ⟨rfl, ((hK1.trans hK2).trans hK3).trans hK4, hpb⟩
          · rw [if_neg hg] at hX3
            rw [hX3]
            clear hX3
            have hg1 : ¬ g < 56320 := fun e => hg (.inl e)
            have hg2 : ¬ 57344 ≤ g := fun e => hg (.inr e)
            clear hg
            go_enter Tryz.func123, Tryz.ntmps123
            go_wp2_with (first
              | (go_at_call 133; refine hF1.mono ?_; rintro e w1 ⟨hK1, hA1⟩; rw [hf1] at hA1; obtain ⟨rfl, hP1⟩ := hA1; clear hF1)
              | (go_at_call 104; refine (hN _ hP1).mono ?_; rintro e w2 ⟨rfl, hP2, hK2⟩; clear hN)
              | (go_at_call 104; refine (next_ok hP2).mono ?_; rintro e w3 ⟨rfl, hP3, hK3⟩)
              | (go_at_call 133; refine (four_any hP3 f hf).mono ?_; rintro e w4 ⟨hK4, hA4⟩; rw [hf2] at hA4; obtain ⟨rfl, hP4⟩ := hA4))
            go_ret
            exact ⟨((hK1.trans hK2).trans hK3).trans hK4, by go_num, hP4⟩
end Go.Proofs.YtmmpbjpeiclacaaGreatDoor
/- The contract of the parser's escaped. -/
set_option linter.unusedVariables false
set_option linter.unusedSimpArgs false
namespace Go.Proofs.YtmmpbjpeiclacaaGreatDoor
open Go.RowKit
theorem ne_byte {c d : UInt8} (h : c ≠ d) : ((c.toNat : Int) == (d.toNat : Int)) = false := beq_eq_false_iff_ne.2 fun e => h (byte_eq_int.1 e)
theorem simple_no (c : UInt8) : Jsn.simple c = none → c ≠ 34 ∧ c ≠ 92 ∧ c ≠ 47 ∧ c ≠ 98 ∧ c ≠ 116 ∧ c ≠ 110 ∧ c ≠ 102 ∧ c ≠ 114 := by revert c; apply Jsn.byte_all; decide +kernel
theorem simple_yes (c : UInt8) : ∀ x, Jsn.simple c = some x → (c = 34 ∧ x = 34) ∨ (c = 92 ∧ x = 92) ∨ (c = 47 ∧ x = 47) ∨ (c = 98 ∧ x = 8) ∨ (c = 116 ∧ x = 9) ∨ (c = 110 ∧ x = 10) ∨ (c = 102 ∧ x = 12) ∨ (c = 114 ∧ x = 13) := by
  intro x
  unfold Jsn.simple
  intro h
  repeat' (split at h)
  all_goals first | (cases h; done) | (have e := Option.some.inj h; subst e; simp_all)
set_option maxHeartbeats 2000000 in
theorem escaped_any {b n : Nat} {s r : List UInt8} {x : UInt8} {w : World} (h : Ps b s (x :: r) n w) :
    Calls Tryz.prog 103 #[.pointer (some ⟨b, 0, none⟩)] w fun e w' => Kept b w w' ∧ Ans (Jsn.escR (r.length + 1) r) (fun v z => e = .returned (.int .i32 v) ∧ Ps b s z n w') (fun y k => e = boom s y k) := by
  obtain ⟨f, hf, c1⟩ := h.c1
  simp only [List.length_cons] at hf
  have f1 := h.free 1
  have hlen := h.len
  have hT := h.tail f hf
  have hKT := Kept.set b 1 w (.int .i64 ((f : Int) + 1))
  have hpb : .panicked [{ v := .iface 41 (.agg #[.int .i64 3, .int .i64 (f : Int)]), recovered := false }] = boom s 3 (r.length + 1) := by
    obtain rfl : f = s.length - (r.length + 1) := by omega
    rfl
  cases r with
  | nil =>
    go_enter Tryz.func103, Tryz.ntmps103
    go_wp2_with (first
      | (go_at_call 104; refine (next_end hT).mono ?_; rintro e w2 ⟨rfl, hK2⟩))
    exact ⟨rfl, hKT.trans hK2, rfl⟩
  | cons c t =>
    have hX : Jsn.escR ((c :: t).length + 1) (c :: t) = (match Jsn.simple c with | some x => .ok x t | none => if c = 117 then Jsn.signR ((c :: t).length + 1) t else .err 3 ((c :: t).length + 1)) := rfl
    have hN := next_ok hT
    cases hsm : Jsn.simple c with
    | some v =>
      rw [hsm] at hX
      replace hX : Jsn.escR ((c :: t).length + 1) (c :: t) = .ok v t := hX
      rw [hX]
      clear hX
      rcases simple_yes c v hsm with ⟨rfl, rfl⟩ | ⟨rfl, rfl⟩ | ⟨rfl, rfl⟩ | ⟨rfl, rfl⟩ | ⟨rfl, rfl⟩ | ⟨rfl, rfl⟩ | ⟨rfl, rfl⟩ | ⟨rfl, rfl⟩
      · clear hsm
        go_enter Tryz.func103, Tryz.ntmps103
        go_wp2_with (first
          | (go_at_call 104; refine hN.mono ?_; rintro e w2 ⟨rfl, hP2, hK2⟩))
        go_ret
        exact ⟨hKT.trans hK2, rfl, hP2⟩
      · clear hsm
        go_enter Tryz.func103, Tryz.ntmps103
        go_wp2_with (first
          | (go_at_call 104; refine hN.mono ?_; rintro e w2 ⟨rfl, hP2, hK2⟩))
        go_ret
        exact ⟨hKT.trans hK2, rfl, hP2⟩
      · clear hsm
        go_enter Tryz.func103, Tryz.ntmps103
        go_wp2_with (first
          | (go_at_call 104; refine hN.mono ?_; rintro e w2 ⟨rfl, hP2, hK2⟩))
        go_ret
        exact ⟨hKT.trans hK2, rfl, hP2⟩
      · clear hsm
        go_enter Tryz.func103, Tryz.ntmps103
        go_wp2_with (first
          | (go_at_call 104; refine hN.mono ?_; rintro e w2 ⟨rfl, hP2, hK2⟩))
        go_ret
        exact ⟨hKT.trans hK2, rfl, hP2⟩
      · clear hsm
        go_enter Tryz.func103, Tryz.ntmps103
        go_wp2_with (first
          | (go_at_call 104; refine hN.mono ?_; rintro e w2 ⟨rfl, hP2, hK2⟩))
        go_ret
        exact ⟨hKT.trans hK2, rfl, hP2⟩
      · clear hsm
        go_enter Tryz.func103, Tryz.ntmps103
        go_wp2_with (first
          | (go_at_call 104; refine hN.mono ?_; rintro e w2 ⟨rfl, hP2, hK2⟩))
        go_ret
        exact ⟨hKT.trans hK2, rfl, hP2⟩
      · clear hsm
        go_enter Tryz.func103, Tryz.ntmps103
        go_wp2_with (first
          | (go_at_call 104; refine hN.mono ?_; rintro e w2 ⟨rfl, hP2, hK2⟩))
        go_ret
        exact ⟨hKT.trans hK2, rfl, hP2⟩
      · clear hsm
        go_enter Tryz.func103, Tryz.ntmps103
        go_wp2_with (first
          | (go_at_call 104; refine hN.mono ?_; rintro e w2 ⟨rfl, hP2, hK2⟩))
        go_ret
        exact ⟨hKT.trans hK2, rfl, hP2⟩
    | none =>
      rw [hsm] at hX
      obtain ⟨n0, n1, n2, n3, n4, n5, n6, n7⟩ := simple_no c hsm
      clear hsm
      have q0 : ((c.toNat : Int) == 34) = false := ne_byte n0
      have q1 : ((c.toNat : Int) == 92) = false := ne_byte n1
      have q2 : ((c.toNat : Int) == 47) = false := ne_byte n2
      have q3 : ((c.toNat : Int) == 98) = false := ne_byte n3
      have q4 : ((c.toNat : Int) == 116) = false := ne_byte n4
      have q5 : ((c.toNat : Int) == 110) = false := ne_byte n5
      have q6 : ((c.toNat : Int) == 102) = false := ne_byte n6
      have q7 : ((c.toNat : Int) == 114) = false := ne_byte n7
      clear n0 n1 n2 n3 n4 n5 n6 n7
      by_cases hu : c = 117
      · replace hX : Jsn.escR ((c :: t).length + 1) (c :: t) = Jsn.signR ((c :: t).length + 1) t := by rw [hX]; exact if_pos hu
        subst hu
        cases hz : Jsn.signR ((117 :: t).length + 1) t with
        | err y k =>
          rw [hz] at hX
          rw [hX]
          clear hX
          go_enter Tryz.func103, Tryz.ntmps103
          go_wp2_with (first
            | (go_at_call 104; refine hN.mono ?_; rintro e w2 ⟨rfl, hP2, hK2⟩)
            | (go_at_call 123; refine (sign_any (m := (117 :: t).length + 1) hP2 f (by simp only [List.length_cons] at hf ⊢; omega)).mono ?_; rintro e w3 ⟨hK3, hA⟩; rw [hz] at hA; replace hA : e = boom s y k := hA; subst hA))
          exact ⟨rfl, (hKT.trans hK2).trans hK3, rfl⟩
        | ok v z =>
          rw [hz] at hX
          rw [hX]
          clear hX
          go_enter Tryz.func103, Tryz.ntmps103
          go_wp2_with (first
            | (go_at_call 104; refine hN.mono ?_; rintro e w2 ⟨rfl, hP2, hK2⟩)
            | (go_at_call 123; refine (sign_any (m := (117 :: t).length + 1) hP2 f (by simp only [List.length_cons] at hf ⊢; omega)).mono ?_; rintro e w3 ⟨hK3, hA⟩; rw [hz] at hA; obtain ⟨rfl, hP3⟩ := hA))
          go_ret
          exact ⟨(hKT.trans hK2).trans hK3, rfl, hP3⟩
      · replace hX : Jsn.escR ((c :: t).length + 1) (c :: t) = .err 3 ((c :: t).length + 1) := by rw [hX]; exact if_neg hu
        rw [hX]
        clear hX
        have q8 : ((c.toNat : Int) == 117) = false := ne_byte hu
        go_enter Tryz.func103, Tryz.ntmps103
        go_wp2_with (first
          | (go_at_call 104; refine hN.mono ?_; rintro e w2 ⟨rfl, hP2, hK2⟩))
        exact ⟨rfl, hKT.trans hK2, hpb⟩
end Go.Proofs.YtmmpbjpeiclacaaGreatDoor
