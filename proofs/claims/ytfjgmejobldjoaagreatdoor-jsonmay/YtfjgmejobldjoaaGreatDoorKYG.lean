/- Contracts of the parser's four, sign, escaped. -/
import Derived.Test.YtfjgmejobldjoaaGreatDoorKYdef
import Derived.Laws.BitsLemmas
set_option linter.unusedVariables false
set_option linter.unusedSimpArgs false
namespace Go.Proofs.YtfjgmejobldjoaaGreatDoor
open Go.RowKit
theorem Kept.drewN {b : Nat} {w w' : World} (h : Kept b w w') (q : Nat) : Kept b w (w'.drewN q) := ⟨h.os, h.tape, h.output, h.size, h.block⟩
theorem Ps.drewN {b n : Nat} {s l : List UInt8} {w : World} (h : Ps b s l n w) (q : Nat) : Ps b s l n (w.drewN q) := ⟨h.at_, h.suf, h.len, h.cnt⟩
theorem hex_one (c : UInt8) : (Asc.hexOk (Asc.bt c) = true → Asc.hexNum [c] = Asc.hexV (Asc.bt c) ∧ Asc.hexErr [c] = 0) ∧ (Asc.hexOk (Asc.bt c) = false → Asc.hexNum [c] = 0 ∧ Asc.hexErr [c] = 3) := by
  constructor
  · intro h
    refine Asc.hex_ok [c] _ ⟨by simp [Asc.allHex, h], List.cons_ne_nil _ _⟩ ?_
    have := Asc.hexFold_next [c] 0 0 (by simp) (by omega)
    simp at this
    rw [this]
    exact Asc.hexFold_end [] 0 _ (by simp)
  · intro h
    exact Asc.hex_form [c] fun e => by
      have := e.1
      simp [Asc.allHex, h] at this
theorem Hex_one (c : UInt8) (w : World) :
    Calls Tryz.prog 144 #[.string (str [c])] w fun e w' => e = .returned (.tuple #[.int .u32 (Asc.hexNum [c]), .int .i64 (Asc.hexErr [c])]) ∧ w' = w := by
  have h := Hex_any (str [c]) w (by rw [str_size]; simp)
  rw [str_data] at h
  exact h
theorem four_cons (m k : Nat) (v : Int) (c : UInt8) (r : List UInt8) : Jsn.four m (k + 1) v (c :: r) = if Asc.hexOk (Asc.bt c) = true then Jsn.four m k (v * 16 + Asc.hexV (Asc.bt c)) r else .err 3 m := rfl
theorem suf_one {c : UInt8} {r s : List UInt8} (h : c :: r <:+ s) {p : Nat} (hp : p + (r.length + 1) = s.length) : (str s).extract p (p + 1) = str [c] := by
  obtain ⟨q, rfl⟩ := h
  obtain rfl : p = q.length := by simp at hp; omega
  apply str_eq
  rw [data_cut, str_data, List.take_append]
  simp [List.take_of_length_le]
theorem or_hex32 (n d : Int) (h0 : 0 ≤ n) (h1 : n ≤ 65535) (h2 : 0 ≤ d) (h3 : d ≤ 15) : bits BinOp.or IntKind.i32 (n * 16) d = n * 16 + d :=
  bits_join .i32 31 (by decide) wraps_i32 4 (n * 16) d (by omega) (by omega) (by omega) h2 (by omega) (by omega)
set_option maxHeartbeats 2000000 in
theorem four_any {b n m : Nat} {s l : List UInt8} {w : World} (h : Ps b s l n w) (f : Nat) (hf : f + m = s.length) :
    Calls Tryz.prog 140 #[.pointer (some ⟨b, 0, none⟩), .int .i64 (f : Int)] w fun e w' => Kept b w w' ∧ Ans (Jsn.four m 4 0 l) (fun v r => e = .returned (.int .i32 v) ∧ Ps b s r n w') (fun y k => e = boom s y k) := by
  have hlen := h.len
  have hz := str_size s
  have hpb : .panicked [{ v := .iface 45 (.agg #[.int .i64 3, .int .i64 (f : Int)]), recovered := false }] = boom s 3 m := by
    obtain rfl : f = s.length - m := by omega
    rfl
  generalize hX : Jsn.four m 4 0 l = X
  have HX : Hid (Jsn.four m 4 0 l = X) := hX
  clear hX
  go_enter Tryz.func140, Tryz.ntmps140
  go_wp2
  go_loopw [5, 8] (fun v i wr => ∃ (k : Nat) (x : Int) (z : List UInt8), v = .int .i32 x ∧ i = .int .i64 k ∧ k ≤ 4 ∧ 0 ≤ x ∧ x < 16 ^ k ∧ Ps b s z n wr ∧ Kept b w wr ∧ Hid (Jsn.four m (4 - k) x z = X)) (fun _ i _ => 4 - (intOf i).toNat)
  case atStart => exact ⟨0, 0, l, rfl, rfl, by omega, by omega, by omega, h, Kept.refl _ _, HX.out⟩
  case round =>
    obtain ⟨k, x, z, rfl, rfl, hk, hx0, hx1, hP, hK, HE⟩ := hrel
    by_cases hlt : k < 4
    · obtain ⟨j, hj⟩ : ∃ j, 4 - k = j + 1 := ⟨3 - k, by omega⟩
      have hE := HE.out
      rw [hj] at hE
      cases z with
      | nil =>
        have HY : Hid (X = .err 4 0) := hE.symm
        clear hE HE
        go_wp2_with (first
          | (go_at_call 111; refine (peek_end hP).mono ?_; rintro e w1 ⟨rfl, hK1⟩))
        exact ⟨rfl, hK.trans hK1, by rw [HY.out]; rfl⟩
      | cons c r =>
        rw [four_cons] at hE
        have hb := Asc.hexV_bd (Asc.bt c)
        have hx2 : x < 65536 := by
          have : (16 : Int) ^ k ≤ 4096 := by
            match k, hlt with
            | 0, _ => decide
            | 1, _ => decide
            | 2, _ => decide
            | 3, _ => decide
          omega
        cases hc : Asc.hexOk (Asc.bt c)
        · have HY : Hid (X = .err 3 m) := by show _ = _; rw [← hE, hc]; rfl
          have hh := (hex_one c).2 hc
          have hH := fun w => Hex_one c w
          rw [hh.1, hh.2] at hH
          clear hE HE hh hc
          go_wp2_with (first
            | (go_at_call 111; refine (peek_ok hP).mono ?_; rintro e w1 ⟨rfl, hP1, hK1⟩; obtain ⟨p, hp, c1⟩ := hP1.c1; simp only [List.length_cons] at hp; have c0 := hP1.c0; have hcut := suf_one hP1.suf hp))
          have b1 : (0 : Int) ≤ (p : Int) := by omega
          have b2 : (p : Int) + 1 ≤ (s.length : Int) := by omega
          have b3 : (p : Int) ≤ (p : Int) + 1 := by omega
          have hwr : IntKind.i64.wrap ((p : Int) + 1) = (p : Int) + 1 := by rw [IntKind.wrap_i64]; omega
          have ht : ((p : Int) + 1).toNat = p + 1 := by omega
          go_quiet ((go_at_call 144; exact Calls.quiet_of_same (hH _)))
          go_wp2
          exact ⟨rfl, (hK.trans hK1).drewN nq, by rw [HY.out]; exact hpb⟩
        · have HY : Hid (Jsn.four m (4 - (k + 1)) (x * 16 + Asc.hexV (Asc.bt c)) r = X) := by
            show _ = _
            rw [← hE, hc, show 4 - (k + 1) = j from by omega]
            rfl
          have hh := (hex_one c).1 hc
          have hH := fun w => Hex_one c w
          rw [hh.1, hh.2] at hH
          clear hE HE hh hc
          generalize Asc.hexV (Asc.bt c) = d at *
          go_wp2_with (first
            | (go_at_call 111; refine (peek_ok hP).mono ?_; rintro e w1 ⟨rfl, hP1, hK1⟩; obtain ⟨p, hp, c1⟩ := hP1.c1; simp only [List.length_cons] at hp; have c0 := hP1.c0; have f1 := hP1.free 1; have hcut := suf_one hP1.suf hp))
          have b1 : (0 : Int) ≤ (p : Int) := by omega
          have b2 : (p : Int) + 1 ≤ (s.length : Int) := by omega
          have b3 : (p : Int) ≤ (p : Int) + 1 := by omega
          have hwr : IntKind.i64.wrap ((p : Int) + 1) = (p : Int) + 1 := by rw [IntKind.wrap_i64]; omega
          have ht : ((p : Int) + 1).toNat = p + 1 := by omega
          go_quiet ((go_at_call 144; exact Calls.quiet_of_same (hH _)))
          have hor : bits BinOp.or IntKind.i32 (x * 16) d = x * 16 + d := or_hex32 x d hx0 (by omega) hb.1 hb.2
          go_wp2
          go_roundw
          case rel =>
            refine ⟨k + 1, x * 16 + d, r, by first | rfl | rw [hor], by go_num, by omega, by omega, ?_, (hP1.drewN nq).tail p hp, ((hK.trans hK1).drewN nq).trans (Kept.set _ _ _ _), HY⟩
            have : (16 : Int) ^ (k + 1) = 16 ^ k * 16 := Int.pow_succ _ _
            omega
          case measure => simp [intOf]; omega
    · obtain rfl : k = 4 := by omega
      have HY : Hid (X = .ok x z) := HE.out.symm
      go_wp2
      go_ret
      rw [HY.out]
      exact ⟨hK, rfl, hP⟩
/-- Four hex digits are a number below 65536. -/
theorem four_bd (m : Nat) : ∀ (k : Nat) (v : Int) (l r : List UInt8) (x : Int), 0 ≤ v → Jsn.four m k v l = .ok x r → 0 ≤ x ∧ x < (v + 1) * 16 ^ k
  | 0, v, l, r, x, hv, h => by cases h; exact ⟨hv, by simp; omega⟩
  | k + 1, v, [], r, x, hv, h => by cases h
  | k + 1, v, c :: l, r, x, hv, h => by
    rw [four_cons] at h
    split at h
    · have hb := Asc.hexV_bd (Asc.bt c)
      have := four_bd m k _ l r x (by omega) h
      refine ⟨this.1, Int.lt_of_lt_of_le this.2 ?_⟩
      have e : (v + 1) * 16 ^ (k + 1) = ((v + 1) * 16) * 16 ^ k := by rw [Int.pow_succ, Int.mul_assoc, Int.mul_comm (16 ^ k) 16, ← Int.mul_assoc]
      rw [e]
      exact Int.mul_le_mul_of_nonneg_right (by omega) (Int.pow_nonneg (by decide))
    · cases h
theorem four_bd4 {m : Nat} {l r : List UInt8} {x : Int} (h : Jsn.four m 4 0 l = .ok x r) : 0 ≤ x ∧ x < 65536 := four_bd m 4 0 l r x (by omega) h
theorem must_ok {m : Nat} {c : UInt8} {l r : List UInt8} {u : Unit} (h : Jsn.mustR m c l = .ok u r) : l = c :: r := by
  cases l with
  | nil => cases h
  | cons d t =>
    replace h : (if d = c then (.ok () t : Jsn.R Unit) else .err 3 m) = .ok u r := h
    split at h
    · rename_i e; cases h; rw [e]
    · cases h
theorem must_err {m : Nat} {c : UInt8} {l : List UInt8} {y : Int} {k : Nat} (h : Jsn.mustR m c l = .err y k) : (l = [] ∧ y = 4 ∧ k = 0) ∨ ∃ d t, l = d :: t ∧ d ≠ c ∧ y = 3 ∧ k = m := by
  cases l with
  | nil => cases h; exact .inl ⟨rfl, rfl, rfl⟩
  | cons d t =>
    replace h : (if d = c then (.ok () t : Jsn.R Unit) else .err 3 m) = .err y k := h
    split at h
    · cases h
    · rename_i e; cases h; exact .inr ⟨d, t, rfl, e, rfl, rfl⟩
end Go.Proofs.YtfjgmejobldjoaaGreatDoor
