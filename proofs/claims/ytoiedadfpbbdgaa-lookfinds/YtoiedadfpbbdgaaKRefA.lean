/- Texts laid as one. -/
import Derived.Test.YtoiedadfpbbdgaaKUPa
import Derived.Laws.BitsAllLaws
import Derived.Test.YtoiedadfpbbdgaaKUPut
/- The contracts of the reference's small functions, and of its Next. -/
namespace Utf
/-- The number that i bytes tell of a sign of n bytes. -/
def off (n : Nat) : Int := if n = 2 then 192 else if n = 3 then 224 else if n = 4 then 240 else 0
def valAt (l : List UInt8) (o : Int) : Nat → Int
  | 0 => 0
  | 1 => (at' l 0 : Int) - o
  | (i + 2) => valAt l o (i + 1) * 64 + (at' l (i + 1) : Int) - 128
theorem val_1 (l : List UInt8) (o : Int) : valAt l o 1 = (at' l 0 : Int) - o := rfl
theorem val_s (l : List UInt8) (o : Int) (i : Nat) (h : 1 ≤ i) : valAt l o (i + 1) = valAt l o i * 64 + (at' l i : Int) - 128 := by
  cases i with
  | zero => omega
  | succ i => rfl
theorem whole_sz (l : List UInt8) (hw : (part l).2 = true) : (part l).1 = sz (at' l 0) ∧ 1 ≤ sz (at' l 0) := by
  have hs4 := sz_le4 (at' l 0)
  unfold part partN at *
  revert hw
  repeat' split
  all_goals intro hw
  all_goals first | (cases hw; done) | skip
  all_goals dsimp only
  all_goals omega
theorem val_bd (l : List UInt8) (hw : (part l).2 = true) (i : Nat) (h1 : 1 ≤ i) (hi : i < sz (at' l 0)) : 0 ≤ valAt l (off (sz (at' l 0))) i ∧ valAt l (off (sz (at' l 0))) i ≤ 30000 := by
  obtain ⟨e1, e2⟩ := whole_sz l hw
  have cont : ∀ j, 1 ≤ j → j < sz (at' l 0) → 128 ≤ at' l j ∧ at' l j ≤ 191 := fun j a b => part_cont l j a (by omega)
  have hs4 := sz_le4 (at' l 0)
  have v1 : valAt l (off (sz (at' l 0))) 1 = _ := rfl
  have v2 : valAt l (off (sz (at' l 0))) 2 = _ := val_s l _ 1 (by omega)
  have v3 : valAt l (off (sz (at' l 0))) 3 = _ := val_s l _ 2 (by omega)
  rcases sz_inv (at' l 0) (by omega) with q | q | q | q
  · omega
  · have : off (sz (at' l 0)) = 192 := by rw [q.1]; rfl
    obtain rfl : i = 1 := by omega
    rw [val_1, this]; omega
  · have : off (sz (at' l 0)) = 224 := by rw [q.1]; rfl
    have c1 := cont 1 (by omega) (by omega)
    obtain rfl | rfl : i = 1 ∨ i = 2 := by omega
    · rw [val_1, this]; omega
    · rw [v2, val_1, this]; omega
  · have : off (sz (at' l 0)) = 240 := by rw [q.1]; rfl
    have c1 := cont 1 (by omega) (by omega)
    have c2 := cont 2 (by omega) (by omega)
    obtain rfl | rfl | rfl : i = 1 ∨ i = 2 ∨ i = 3 := by omega
    · rw [val_1, this]; omega
    · rw [v2, val_1, this]; omega
    · rw [v3, v2, val_1, this]; omega
theorem val_end (l : List UInt8) (h : l ≠ []) (hw : (part l).2 = true) : valAt l (off (sz (at' l 0))) (sz (at' l 0)) = ((dec l).1 : Int) := by
  obtain ⟨e1, e2⟩ := whole_sz l hw
  have cont : ∀ j, 1 ≤ j → j < sz (at' l 0) → 128 ≤ at' l j ∧ at' l j ≤ 191 := fun j a b => part_cont l j a (by omega)
  have hpl := part_len l h
  have hb2 : 2 ≤ sz (at' l 0) → lo (at' l 0) ≤ at' l 1 ∧ at' l 1 ≤ hi (at' l 0) := by
    intro h2
    unfold part partN at hw
    rw [if_neg (by omega), if_neg (by omega)] at hw
    split at hw
    · cases hw
    · omega
  rcases sz_inv (at' l 0) (by omega) with q | q | q | q
  · have : off (sz (at' l 0)) = 0 := by rw [q.1]; rfl
    rw [this, q.1, val_1]
    unfold dec
    rw [dec_1 _ _ _ _ _ q.2]
    omega
  · have : off (sz (at' l 0)) = 192 := by rw [q.1]; rfl
    have c1 := cont 1 (by omega) (by omega)
    rw [this, q.1, val_s l _ 1 (by omega), val_1]
    unfold dec
    rw [dec_2 _ _ _ _ _ (by omega) q.2 c1]
    simp only
    omega
  · have : off (sz (at' l 0)) = 224 := by rw [q.1]; rfl
    have c1 := cont 1 (by omega) (by omega)
    have c2 := cont 2 (by omega) (by omega)
    rw [this, q.1, val_s l _ 2 (by omega), val_s l _ 1 (by omega), val_1]
    unfold dec
    rw [dec_3 _ _ _ _ _ (by omega) q.2 (hb2 (by omega)) c2]
    simp only
    omega
  · have : off (sz (at' l 0)) = 240 := by rw [q.1]; rfl
    have c1 := cont 1 (by omega) (by omega)
    have c2 := cont 2 (by omega) (by omega)
    have c3 := cont 3 (by omega) (by omega)
    rw [this, q.1, val_s l _ 3 (by omega), val_s l _ 2 (by omega), val_s l _ 1 (by omega), val_1]
    unfold dec
    rw [dec_4 _ _ _ _ _ (by omega) q.2 (hb2 (by omega)) c2 c3]
    simp only
    omega
/-- May a byte stand at a place behind a first one? -/
def goodAt (b k x : Nat) : Bool := decide ((if k = 1 then lo b else 128) ≤ x ∧ x ≤ (if k = 1 then hi b else 191))
theorem good_low (b k x : Nat) (h : 1 < sz b) : goodAt b k x = false ↔ (x < lowAt b k ∨ highAt b k < x) := by
  have e' := lo_hi' (b := b) (by omega)
  unfold goodAt lowAt highAt
  rw [e'.1, e'.2, decide_eq_false_iff_not]
  omega
end Utf
namespace Go.Proofs.Ytoiedadfpbbdgaa
open Go.RowKit
set_option maxHeartbeats 1000000 in
set_option maxRecDepth 100000 in
theorem Right_n (c : Int) (w : World) :
    Calls Try.prog 112 #[.int .i32 c] w fun e w' => e = .returned (.bool (Utf.right c)) ∧ w' = w := by
  by_cases h1 : 0 ≤ c
  · by_cases h2 : c ≤ 1114111
    · by_cases h3 : c < 55296
      · have hr : Utf.right c = true := by unfold Utf.right; exact decide_eq_true (by omega)
        rw [hr]
        go_enter Try.func112, Try.ntmps112
        go_wp2
        go_ret
        exact ⟨ret_bool (by first | rfl | (simp <;> omega)), rfl⟩
      · by_cases h4 : 57343 < c
        · have hr : Utf.right c = true := by unfold Utf.right; exact decide_eq_true (by omega)
          rw [hr]
          go_enter Try.func112, Try.ntmps112
          go_wp2
          go_ret
          exact ⟨ret_bool (by first | rfl | (simp <;> omega)), rfl⟩
        · have hr : Utf.right c = false := by unfold Utf.right; exact decide_eq_false (by omega)
          rw [hr]
          go_enter Try.func112, Try.ntmps112
          go_wp2
          go_ret
          exact ⟨ret_bool (by first | rfl | (simp <;> omega)), rfl⟩
    · have hr : Utf.right c = false := by unfold Utf.right; exact decide_eq_false (by omega)
      rw [hr]
      go_enter Try.func112, Try.ntmps112
      go_wp2
      go_ret
      exact ⟨ret_bool (by first | rfl | (simp <;> omega)), rfl⟩
  · have hr : Utf.right c = false := by unfold Utf.right; exact decide_eq_false (by omega)
    rw [hr]
    go_enter Try.func112, Try.ntmps112
    go_wp2
    go_ret
    exact ⟨ret_bool (by first | rfl | (simp <;> omega)), rfl⟩
set_option maxHeartbeats 1000000 in
set_option maxRecDepth 100000 in
theorem size_any (b : Nat) (w : World) :
    Calls Try.prog 110 #[.int .u8 b] w fun e w' => e = .returned (.int .i64 (Utf.sz b : Nat)) ∧ w' = w := by
  go_enter Try.func110, Try.ntmps110
  go_wp2
  all_goals go_ret
  all_goals refine ⟨?_, rfl⟩
  all_goals unfold Utf.sz
  all_goals repeat' split
  all_goals first | rfl | (exfalso; omega) | (exfalso; simp at *; omega)
set_option maxHeartbeats 2000000 in
set_option maxRecDepth 100000 in
theorem good_any (b k x : Nat) (w : World) :
    Calls Try.prog 111 #[.int .u8 b, .int .i64 k, .int .u8 x] w fun e w' => e = .returned (.bool (Utf.goodAt b k x)) ∧ w' = w := by
  by_cases hk : k = 1
  · subst hk
    go_enter Try.func111, Try.ntmps111
    go_wp2
    all_goals go_ret
    all_goals refine ⟨ret_bool ?_, rfl⟩
    all_goals rw [Bool.eq_iff_iff]
    all_goals unfold Utf.goodAt Utf.lo Utf.hi
    all_goals rw [decide_eq_true_iff]
    all_goals simp at *
    all_goals repeat' split
    all_goals omega
  · have hq : ((k : Int) == 1) = false := by rw [beq_eq_false_iff_ne]; omega
    go_enter Try.func111, Try.ntmps111
    go_wp2
    all_goals go_ret
    all_goals refine ⟨ret_bool ?_, rfl⟩
    all_goals rw [Bool.eq_iff_iff]
    all_goals unfold Utf.goodAt
    all_goals rw [decide_eq_true_iff, if_neg hk, if_neg hk]
    all_goals simp
    all_goals omega
end Go.Proofs.Ytoiedadfpbbdgaa
/- The contracts of the reference's one and Put. -/
namespace Go.Proofs.Ytoiedadfpbbdgaa
open Go.RowKit
theorem owns_new (w : World) (xs : List Value) (l : List UInt8) (n : Nat) (h : cellsB l = xs) (hn : l.length = n) (hl : n ≤ 100) :
    OwnsBytes (w.alloc (.cells xs.toArray 5)) w.heap.size (.slice (some ⟨w.heap.size, 0, none⟩) n n) l := by
  subst h hn
  refine ⟨by rw [cellsB_length, Nat.mul_one], .inr ⟨w.heap.size, l.length, _, rfl, Nat.le_refl _, heap_new w _, Nat.le_refl _, by unfold maxLen; omega, ?_, ?_⟩⟩
  · rw [List.size_toArray, cellsB_length, Nat.mul_one]
  · rw [Nat.mul_one]
    exact List.take_of_length_le (by rw [cellsB_length]; exact Nat.le_refl _)
theorem cells_rune (c : Int) : cellsB (Lib.encodeRune c) = Lib.runeCells c := by rw [cellsB_byteCells, Lib.byteCells_encodeRune]
set_option maxHeartbeats 2000000 in
set_option maxRecDepth 100000 in
theorem one_right (c : Int) (w : World) (hc : Utf.right c = true) :
    Calls Try.prog 98 #[.int .i32 c] w fun e w' => ∃ v', e = .returned v' ∧ OwnsBytes w' w.heap.size v' (Lib.encodeRune c) ∧ Below w.heap.size w w' := by
  have hr : 0 ≤ c ∧ c ≤ 1114111 ∧ (c < 55296 ∨ 57343 < c) := by simpa [Utf.right] using hc
  have hb : ∀ o, Below w.heap.size w (w.alloc o) := fun o => (Below.refl _ w).alloc (Nat.le_refl _) _
  by_cases c1 : c < 128
  · have HE : Hid (cellsB (Lib.encodeRune c) = [.int .u8 c]) := by
      show _ = _
      rw [cells_rune, Lib.runeCells, Lib.encodeRuneZ_one hr.1 (by omega)]; rfl
    have HN : Hid ((Lib.encodeRune c).length = 1) := by show _ = _; rw [← cellsB_length, HE.out]; rfl
    go_enter Try.func98, Try.ntmps98
    go_wp2_with (go_at_call 112; refine (Right_n _ _).mono ?_; rintro e w1 ⟨rfl, hw⟩; rw [hw]; clear hw)
    go_ret
    exact ⟨_, rfl, owns_new w _ _ _ HE.out HN.out (by decide), hb _⟩
  by_cases c2 : c < 2048
  · have d1 : (c).tdiv 64 = c / 64 := Int.tdiv_eq_ediv_of_nonneg (by omega)
    have m1 : (c).tmod 64 = c % 64 := Int.tmod_eq_emod_of_nonneg (by omega)
    have HE : Hid (cellsB (Lib.encodeRune c) = [.int .u8 (192 + c / 64), .int .u8 (128 + c % 64)]) := by
      show _ = _
      rw [cells_rune, Lib.runeCells, Lib.encodeRuneZ_two (by omega) (by omega)]; rfl
    have HN : Hid ((Lib.encodeRune c).length = 2) := by show _ = _; rw [← cellsB_length, HE.out]; rfl
    go_enter Try.func98, Try.ntmps98
    go_wp2_with (go_at_call 112; refine (Right_n _ _).mono ?_; rintro e w1 ⟨rfl, hw⟩; rw [hw]; clear hw)
    go_ret
    exact ⟨_, rfl, owns_new w _ _ _ HE.out HN.out (by decide), hb _⟩
  by_cases c3 : c < 65536
  · have d1 : (c).tdiv 4096 = c / 4096 := Int.tdiv_eq_ediv_of_nonneg (by omega)
    have d2 : (c).tdiv 64 = c / 64 := Int.tdiv_eq_ediv_of_nonneg (by omega)
    have m1 : (c).tmod 64 = c % 64 := Int.tmod_eq_emod_of_nonneg (by omega)
    have m2 : (c / 64).tmod 64 = c / 64 % 64 := Int.tmod_eq_emod_of_nonneg (by omega)
    have HE : Hid (cellsB (Lib.encodeRune c) = [.int .u8 (224 + c / 4096), .int .u8 (128 + c / 64 % 64), .int .u8 (128 + c % 64)]) := by
      show _ = _
      rw [cells_rune, Lib.runeCells, Lib.encodeRuneZ_three (by omega)]; rfl
    have HN : Hid ((Lib.encodeRune c).length = 3) := by show _ = _; rw [← cellsB_length, HE.out]; rfl
    go_enter Try.func98, Try.ntmps98
    go_wp2_with (go_at_call 112; refine (Right_n _ _).mono ?_; rintro e w1 ⟨rfl, hw⟩; rw [hw]; clear hw)
    go_ret
    exact ⟨_, rfl, owns_new w _ _ _ HE.out HN.out (by decide), hb _⟩
  have d1 : (c).tdiv 262144 = c / 262144 := Int.tdiv_eq_ediv_of_nonneg (by omega)
  have d2 : (c).tdiv 4096 = c / 4096 := Int.tdiv_eq_ediv_of_nonneg (by omega)
  have d3 : (c).tdiv 64 = c / 64 := Int.tdiv_eq_ediv_of_nonneg (by omega)
  have m1 : (c).tmod 64 = c % 64 := Int.tmod_eq_emod_of_nonneg (by omega)
  have m2 : (c / 64).tmod 64 = c / 64 % 64 := Int.tmod_eq_emod_of_nonneg (by omega)
  have m3 : (c / 4096).tmod 64 = c / 4096 % 64 := Int.tmod_eq_emod_of_nonneg (by omega)
  have HE : Hid (cellsB (Lib.encodeRune c) = [.int .u8 (240 + c / 262144), .int .u8 (128 + c / 4096 % 64), .int .u8 (128 + c / 64 % 64), .int .u8 (128 + c % 64)]) := by
    show _ = _
    rw [cells_rune, Lib.runeCells, Lib.encodeRuneZ_four (by omega) (by omega)]; rfl
  have HN : Hid ((Lib.encodeRune c).length = 4) := by show _ = _; rw [← cellsB_length, HE.out]; rfl
  go_enter Try.func98, Try.ntmps98
  go_wp2_with (go_at_call 112; refine (Right_n _ _).mono ?_; rintro e w1 ⟨rfl, hw⟩; rw [hw]; clear hw)
  go_ret
  exact ⟨_, rfl, owns_new w _ _ _ HE.out HN.out (by decide), hb _⟩
theorem enc_none {c : Int} (h : Utf.right c = false) : Lib.encodeRune c = Lib.encodeRune 65533 := by
  rw [← Utf.encode_mend c]
  unfold Utf.mend
  rw [h]
  rfl
set_option maxHeartbeats 2000000 in
set_option maxRecDepth 100000 in
theorem one_any (c : Int) (w : World) :
    Calls Try.prog 98 #[.int .i32 c] w fun e w' => ∃ v', e = .returned v' ∧ OwnsBytes w' w.heap.size v' (Lib.encodeRune c) ∧ Below w.heap.size w w' := by
  cases hc : Utf.right c
  · have HE := enc_none hc
    rw [HE]
    go_enter Try.func98, Try.ntmps98
    go_wp2_with (first
      | (go_at_call 112; refine (Right_n _ _).mono ?_; rintro e w1 ⟨rfl, hw⟩; rw [hw]; clear hw)
      | (go_at_call 98; refine (one_right 65533 _ rfl).mono ?_; rintro e w2 ⟨v2, rfl, ho2, hb2⟩))
    go_ret
    exact ⟨_, rfl, ho2, hb2⟩
  · exact one_right c w hc
end Go.Proofs.Ytoiedadfpbbdgaa
/- The contract of the reference's Put. -/
namespace Go.Proofs.Ytoiedadfpbbdgaa
open Go.RowKit
theorem OwnsBytes.below {W W' : World} {B : Nat} {v : Value} {l : List UInt8} (h : OwnsBytes W B v l) (hb : Below W.heap.size W W') : OwnsBytes W' B v l := by
  refine ⟨h.1, ?_⟩
  rcases h.2 with h2 | ⟨g, cap, cur, h1, h2, h3, h4⟩
  · exact .inl h2
  · refine .inr ⟨g, cap, cur, h1, h2, ?_, h4⟩
    rw [hb.block g (Array.getElem?_eq_some_iff.1 h3).1]
    exact h3
theorem owns_src {w : World} {B : Nat} {v : Value} {l : List UInt8} (h : OwnsBytes w B v l) (hl : 1 ≤ l.length) :
    ∃ g cap, v = .slice (some ⟨g, 0, none⟩) l.length cap ∧ ∀ (j : Nat) u, (cellsB l)[j]? = some u → w.cell? ((⟨g, 0, none⟩ : Addr).add j) = some u := by
  have h0 := h
  rcases h.2 with ⟨rfl, hz⟩ | ⟨g, cap, cur, rfl, _, hg, hc, _, hcs, ht⟩
  · omega
  · refine ⟨g, cap, rfl, fun j u hj => ?_⟩
    have hlt : j < (cellsB l).length := (List.getElem?_eq_some_iff.1 hj).1
    rw [cellsB_length] at hlt
    have := World.ownsRow.cellAt (w := w) (base := B) (e := 5) (size := 1) (g := g) (cap := cap) (n := l.length) (xs := cellsB l) h0 j (by omega)
    rw [add_addr, Nat.zero_add, this, hj]
theorem owns_more {w : World} {B : Nat} {v : Value} {l m : List UInt8} (h : w.ownsRow B 5 1 v (l.length + m.length) (cellsB l ++ cellsB m)) : OwnsBytes w B v (l ++ m) := by
  unfold OwnsBytes
  rw [List.length_append]
  unfold cellsB at *
  rw [List.map_append]
  exact h
set_option maxHeartbeats 2000000 in
set_option maxRecDepth 100000 in
theorem RPut_any (v u : Value) (l : List UInt8) (cs : List Int) (w : World) (hz : l.length ≤ 1000000000) (hy : cs.length ≤ 1000000000) (hv : ReadsCells w v (cellsB l)) (hu : ReadsCells w u (cellsR cs)) :
    Calls Try.prog 91 #[v, u] w fun e w' => ∃ v', e = .returned v' ∧ OwnsBytes w' w.heap.size v' (l ++ puts cs) ∧ Below w.heap.size w w' := by
  obtain ⟨i0, hi, hz0, hz1, hz2⟩ := info_parts infoByte
  obtain ⟨ad, cp, rfl⟩ : ∃ ad cp, u = .slice ad cs.length cp := by
    rcases hu with ⟨a, c, rfl, h0⟩ | ⟨b, o, c, rfl, _, _⟩
    · exact ⟨a, c, by rw [← cellsR_length, h0]; rfl⟩
    · exact ⟨_, c, by rw [cellsR_length]⟩
  have HU : Hid (ReadsCells w (.slice ad cs.length cp) (cellsR cs)) := hu
  clear hu
  obtain ⟨ad2, c2, rfl⟩ : ∃ ad c, v = .slice ad l.length c := by
    rcases hv with ⟨a, c, rfl, h0⟩ | ⟨b, o, c, rfl, _, _⟩
    · exact ⟨a, c, by rw [← cellsB_length, h0]; rfl⟩
    · exact ⟨_, c, by rw [cellsB_length]⟩
  cases ad2 with
  | none =>
    have hl : l = [] := by
      rcases hv with ⟨a, c, h1, h0⟩ | ⟨b, o, c, h1, _, _⟩
      · exact List.eq_nil_of_length_eq_zero (by rw [← cellsB_length, h0]; rfl)
      · cases h1
    subst hl
    go_enter Try.func91, Try.ntmps91
    go_wp2
    go_loopw [5, 6] (fun x i wr => ∃ k : Nat, k ≤ cs.length ∧ i = .int .i64 k ∧ OwnsBytes wr w.heap.size x ([] ++ puts (cs.take k)) ∧ Below w.heap.size w wr) (fun _ i _ => cs.length - (intOf i).toNat)
    case atStart => exact ⟨0, Nat.zero_le _, rfl, OwnsBytes.nil _ _, Below.refl _ _⟩
    case round =>
      obtain ⟨k, hk, rfl, ho, hbw⟩ := hrel
      by_cases hlt : k < cs.length
      · obtain ⟨c, hc⟩ : ∃ c, cs[k]? = some c := ⟨_, List.getElem?_eq_getElem hlt⟩
        have hpl := puts_len (cs.take k)
        rw [List.length_take] at hpl
        obtain ⟨b, o, rfl, hcp, hcell⟩ : ∃ b o, ad = some ⟨b, o, none⟩ ∧ cs.length ≤ cp ∧ w.cell? ⟨b, o + k, none⟩ = some (.int .i32 c) := by
          rcases HU.out with ⟨a, c', h1, h0⟩ | ⟨b, o, c', h1, h2, h3⟩
          · have := congrArg List.length h0
            rw [cellsR_length, List.length_nil] at this
            omega
          · rw [cellsR_length] at h1 h2
            cases h1
            refine ⟨b, o, rfl, h2, h3 k _ ?_⟩
            unfold cellsR
            rw [List.getElem?_map, hc]
            rfl
        have hcell2 : wr.cell? ⟨b, o + k, none⟩ = some (.int .i32 c) := (hbw.cell (p := ⟨b, o + k, none⟩) (cell_lt hcell)).trans hcell
        have HC : Hid (cs[k]? = some c) := hc
        have hsz := hbw.size
        have he4 := Utf.enc_len c
        clear hc hcell
        go_wp2_with (first
          | (go_at_call 98; refine (one_any _ _).mono ?_; rintro e w2 ⟨v2, rfl, ho2, hb2⟩; obtain ⟨g2, cap2, rfl, hr2⟩ := owns_src ho2 he4.2; have ho3 := ho.below hb2; have hsz2 := hb2.size)
          | (at_builtin; refine wpList_append_own _ rfl _ _ 90 rfl w.heap.size 5 i0 (.int .u8 0) 1 1 Try.underlying90 hi hz0 hz1 hz2 rfl (by decide) _ _ _ rfl ho3 ⟨g2, 0, none⟩ _ cap2 (cellsB (Lib.encodeRune c)) rfl (by rw [cellsB_length, Nat.mul_one]) hr2 (one_cell _) (by rw [List.length_append]; unfold maxLen; omega) (by rw [List.length_append]; omega) (by omega) ?_; intro v3 w3 ho4 hg3 _))
        have hb3 : Below w.heap.size w w3 := (bel hbw hb2).grown hg3 (by omega) (fun k hk => (World.ownsRow.lt ho3 k hk).1)
        go_roundw
        case rel =>
          refine ⟨k + 1, by omega, by go_num, ?_, hb3⟩
          rw [puts_snoc cs k c HC.out, ← List.append_assoc]
          exact owns_more ho4
        case measure => simp [intOf]; omega
      · have hkk : k = cs.length := by omega
        have ho2 : Hid (OwnsBytes wr w.heap.size u5 ([] ++ puts cs)) := by
          have := ho
          rw [hkk, List.take_length] at this
          exact this
        go_wp2
        go_ret
        exact ⟨_, rfl, ho2.out, hbw⟩
  | some ad2 =>
    have hr : ∀ j u, (cellsB l)[j]? = some u → w.cell? (ad2.add j) = some u := by
      intro j u hj
      rcases hv with ⟨a, c, h1, h0⟩ | ⟨b, o, c, h1, _, h3⟩
      · rw [h0] at hj; simp at hj
      · rw [cellsB_length] at h1
        cases h1
        rw [add_addr]
        exact h3 j u hj
    clear hv
    have hnil : w.ownsRow w.heap.size 5 1 (.slice none 0 0) 0 [] := World.ownsRow_nil _ _ _ _
    go_enter Try.func91, Try.ntmps91
    go_wp2_with (at_builtin; refine wpList_append_own _ rfl _ _ 90 rfl w.heap.size 5 i0 (.int .u8 0) 1 1 Try.underlying90 hi hz0 hz1 hz2 rfl (by decide) _ _ _ rfl hnil ad2 l.length c2 (cellsB l) rfl (by rw [cellsB_length, Nat.mul_one]) hr (one_cell l) (by unfold maxLen; omega) (by omega) (Nat.le_refl _) ?_)
    intro v1 w1 ho1 hg1 _
    have hb1 : Below w.heap.size w w1 := (Below.refl _ w).grown hg1 (Nat.le_refl _) (fun k hk => by cases hk)
    have ho1' : OwnsBytes w1 w.heap.size v1 (l ++ puts (cs.take 0)) := by
      unfold OwnsBytes
      simpa [puts] using ho1
    go_wp2
    go_loopw [5, 6] (fun x i wr => ∃ k : Nat, k ≤ cs.length ∧ i = .int .i64 k ∧ OwnsBytes wr w.heap.size x (l ++ puts (cs.take k)) ∧ Below w.heap.size w wr) (fun _ i _ => cs.length - (intOf i).toNat)
    case atStart => exact ⟨0, Nat.zero_le _, rfl, ho1', hb1⟩
    case round =>
      obtain ⟨k, hk, rfl, ho, hbw⟩ := hrel
      by_cases hlt : k < cs.length
      · obtain ⟨c, hc⟩ : ∃ c, cs[k]? = some c := ⟨_, List.getElem?_eq_getElem hlt⟩
        have hpl := puts_len (cs.take k)
        rw [List.length_take] at hpl
        obtain ⟨b, o, rfl, hcp, hcell⟩ : ∃ b o, ad = some ⟨b, o, none⟩ ∧ cs.length ≤ cp ∧ w.cell? ⟨b, o + k, none⟩ = some (.int .i32 c) := by
          rcases HU.out with ⟨a, c', h1, h0⟩ | ⟨b, o, c', h1, h2, h3⟩
          · have := congrArg List.length h0
            rw [cellsR_length, List.length_nil] at this
            omega
          · rw [cellsR_length] at h1 h2
            cases h1
            refine ⟨b, o, rfl, h2, h3 k _ ?_⟩
            unfold cellsR
            rw [List.getElem?_map, hc]
            rfl
        have hcell2 : wr.cell? ⟨b, o + k, none⟩ = some (.int .i32 c) := (hbw.cell (p := ⟨b, o + k, none⟩) (cell_lt hcell)).trans hcell
        have HC : Hid (cs[k]? = some c) := hc
        have hsz := hbw.size
        have he4 := Utf.enc_len c
        clear hc hcell
        go_wp2_with (first
          | (go_at_call 98; refine (one_any _ _).mono ?_; rintro e w2 ⟨v2, rfl, ho2, hb2⟩; obtain ⟨g2, cap2, rfl, hr2⟩ := owns_src ho2 he4.2; have ho3 := ho.below hb2; have hsz2 := hb2.size)
          | (at_builtin; refine wpList_append_own _ rfl _ _ 90 rfl w.heap.size 5 i0 (.int .u8 0) 1 1 Try.underlying90 hi hz0 hz1 hz2 rfl (by decide) _ _ _ rfl ho3 ⟨g2, 0, none⟩ _ cap2 (cellsB (Lib.encodeRune c)) rfl (by rw [cellsB_length, Nat.mul_one]) hr2 (one_cell _) (by rw [List.length_append]; unfold maxLen; omega) (by rw [List.length_append]; omega) (by omega) ?_; intro v3 w3 ho4 hg3 _))
        have hb3 : Below w.heap.size w w3 := (bel hbw hb2).grown hg3 (by omega) (fun k hk => (World.ownsRow.lt ho3 k hk).1)
        go_roundw
        case rel =>
          refine ⟨k + 1, by omega, by go_num, ?_, hb3⟩
          rw [puts_snoc cs k c HC.out, ← List.append_assoc]
          exact owns_more ho4
        case measure => simp [intOf]; omega
      · have hkk : k = cs.length := by omega
        have ho2 : Hid (OwnsBytes wr w.heap.size u5 (l ++ puts cs)) := by
          have := ho
          rw [hkk, List.take_length] at this
          exact this
        go_wp2
        go_ret
        exact ⟨_, rfl, ho2.out, hbw⟩
end Go.Proofs.Ytoiedadfpbbdgaa
