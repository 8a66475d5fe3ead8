/- Texts laid as one. -/
import Derived.Test.YtnmkhbelmdokmaaGreatDoorKGround
import Derived.Laws.BitsAllLaws
import Derived.RegionTactic
import Derived.Deep.RegionHeldLaw
import Derived.Deep.Cut
import Derived.Deep.AppendLies
/- The contracts of the reference's small functions, and of its Next. -/
namespace Utf
/-- The number that i bytes tell of a sign of n bytes. -/
def off (n : Nat) : Int := if n = 2 then 192 else if n = 3 then 224 else if n = 4 then 240 else 0
def valAt (l : List UInt8) (o : Int) : Nat → Int
  | 0 => 0
  | 1 => (at' l 0 : Int) - o
  | (i + 2) => valAt l o (i + 1) * 64 + (at' l (i + 1) : Int) - 128
theorem val_1 (l : List UInt8) (o : Int) : valAt l o 1 = (at' l 0 : Int) - o := rfl
theorem val_s (l : List UInt8) (o : Int) (i : Nat) (h : 1 ≤ i) : valAt l o (i + 1) = valAt l o i * 64 + (at' l i : Int) - 128 := by
  cases i with
  | zero => omega
  | succ i => rfl
theorem whole_sz (l : List UInt8) (hw : (part l).2 = true) : (part l).1 = sz (at' l 0) ∧ 1 ≤ sz (at' l 0) := by
  have hs4 := sz_le4 (at' l 0)
  unfold part partN at *
  revert hw
  repeat' split
  all_goals intro hw
  all_goals first | (cases hw; done) | skip
  all_goals dsimp only
  all_goals omega
theorem val_bd (l : List UInt8) (hw : (part l).2 = true) (i : Nat) (h1 : 1 ≤ i) (hi : i < sz (at' l 0)) : 0 ≤ valAt l (off (sz (at' l 0))) i ∧ valAt l (off (sz (at' l 0))) i ≤ 30000 := by
  obtain ⟨e1, e2⟩ := whole_sz l hw
  have cont : ∀ j, 1 ≤ j → j < sz (at' l 0) → 128 ≤ at' l j ∧ at' l j ≤ 191 := fun j a b => part_cont l j a (by omega)
  have hs4 := sz_le4 (at' l 0)
  have v1 : valAt l (off (sz (at' l 0))) 1 = _ := rfl
  have v2 : valAt l (off (sz (at' l 0))) 2 = _ := val_s l _ 1 (by omega)
  have v3 : valAt l (off (sz (at' l 0))) 3 = _ := val_s l _ 2 (by omega)
  rcases sz_inv (at' l 0) (by omega) with q | q | q | q
  · omega
  · have : off (sz (at' l 0)) = 192 := by rw [q.1]; rfl
    obtain rfl : i = 1 := by omega
    rw [val_1, this]; omega
  · have : off (sz (at' l 0)) = 224 := by rw [q.1]; rfl
    have c1 := cont 1 (by omega) (by omega)
    obtain rfl | rfl : i = 1 ∨ i = 2 := by omega
    · rw [val_1, this]; omega
    · rw [v2, val_1, this]; omega
  · have : off (sz (at' l 0)) = 240 := by rw [q.1]; rfl
    have c1 := cont 1 (by omega) (by omega)
    have c2 := cont 2 (by omega) (by omega)
    obtain rfl | rfl | rfl : i = 1 ∨ i = 2 ∨ i = 3 := by omega
    · rw [val_1, this]; omega
    · rw [v2, val_1, this]; omega
    · rw [v3, v2, val_1, this]; omega
theorem val_end (l : List UInt8) (h : l ≠ []) (hw : (part l).2 = true) : valAt l (off (sz (at' l 0))) (sz (at' l 0)) = ((dec l).1 : Int) := by
  obtain ⟨e1, e2⟩ := whole_sz l hw
  have cont : ∀ j, 1 ≤ j → j < sz (at' l 0) → 128 ≤ at' l j ∧ at' l j ≤ 191 := fun j a b => part_cont l j a (by omega)
  have hpl := part_len l h
  have hb2 : 2 ≤ sz (at' l 0) → lo (at' l 0) ≤ at' l 1 ∧ at' l 1 ≤ hi (at' l 0) := by
    intro h2
    unfold part partN at hw
    rw [if_neg (by omega), if_neg (by omega)] at hw
    split at hw
    · cases hw
    · omega
  rcases sz_inv (at' l 0) (by omega) with q | q | q | q
  · have : off (sz (at' l 0)) = 0 := by rw [q.1]; rfl
    rw [this, q.1, val_1]
    unfold dec
    rw [dec_1 _ _ _ _ _ q.2]
    omega
  · have : off (sz (at' l 0)) = 192 := by rw [q.1]; rfl
    have c1 := cont 1 (by omega) (by omega)
    rw [this, q.1, val_s l _ 1 (by omega), val_1]
    unfold dec
    rw [dec_2 _ _ _ _ _ (by omega) q.2 c1]
    simp only
    omega
  · have : off (sz (at' l 0)) = 224 := by rw [q.1]; rfl
    have c1 := cont 1 (by omega) (by omega)
    have c2 := cont 2 (by omega) (by omega)
    rw [this, q.1, val_s l _ 2 (by omega), val_s l _ 1 (by omega), val_1]
    unfold dec
    rw [dec_3 _ _ _ _ _ (by omega) q.2 (hb2 (by omega)) c2]
    simp only
    omega
  · have : off (sz (at' l 0)) = 240 := by rw [q.1]; rfl
    have c1 := cont 1 (by omega) (by omega)
    have c2 := cont 2 (by omega) (by omega)
    have c3 := cont 3 (by omega) (by omega)
    rw [this, q.1, val_s l _ 3 (by omega), val_s l _ 2 (by omega), val_s l _ 1 (by omega), val_1]
    unfold dec
    rw [dec_4 _ _ _ _ _ (by omega) q.2 (hb2 (by omega)) c2 c3]
    simp only
    omega
/-- May a byte stand at a place behind a first one? -/
def goodAt (b k x : Nat) : Bool := decide ((if k = 1 then lo b else 128) ≤ x ∧ x ≤ (if k = 1 then hi b else 191))
theorem good_low (b k x : Nat) (h : 1 < sz b) : goodAt b k x = false ↔ (x < lowAt b k ∨ highAt b k < x) := by
  have e' := lo_hi' (b := b) (by omega)
  unfold goodAt lowAt highAt
  rw [e'.1, e'.2, decide_eq_false_iff_not]
  omega
end Utf
namespace Go.Proofs.YtnmkhbelmdokmaaGreatDoor
open Go.RowKit
end Go.Proofs.YtnmkhbelmdokmaaGreatDoor
/- The contracts of the reference's one and Put. -/
namespace Go.Proofs.YtnmkhbelmdokmaaGreatDoor
open Go.RowKit
theorem owns_new (w : World) (xs : List Value) (l : List UInt8) (n : Nat) (h : cellsB l = xs) (hn : l.length = n) (hl : n ≤ 100) :
    OwnsBytes (w.alloc (.cells xs.toArray 5)) w.heap.size (.slice (some ⟨w.heap.size, 0, none⟩) n n) l := by
  subst h hn
  refine ⟨by rw [cellsB_length, Nat.mul_one], .inr ⟨w.heap.size, l.length, _, rfl, Nat.le_refl _, heap_new w _, Nat.le_refl _, by unfold maxLen; omega, ?_, ?_⟩⟩
  · rw [List.size_toArray, cellsB_length, Nat.mul_one]
  · rw [Nat.mul_one]
    exact List.take_of_length_le (by rw [cellsB_length]; exact Nat.le_refl _)
theorem cells_rune (c : Int) : cellsB (Lib.encodeRune c) = Lib.runeCells c := by rw [cellsB_byteCells, Lib.byteCells_encodeRune]
theorem enc_none {c : Int} (h : Utf.right c = false) : Lib.encodeRune c = Lib.encodeRune 65533 := by
  rw [← Utf.encode_mend c]
  unfold Utf.mend
  rw [h]
  rfl
end Go.Proofs.YtnmkhbelmdokmaaGreatDoor
/- The contract of the reference's Put. -/
namespace Go.Proofs.YtnmkhbelmdokmaaGreatDoor
open Go.RowKit
theorem OwnsBytes.below {W W' : World} {B : Nat} {v : Value} {l : List UInt8} (h : OwnsBytes W B v l) (hb : Below W.heap.size W W') : OwnsBytes W' B v l := by
  refine ⟨h.1, ?_⟩
  rcases h.2 with h2 | ⟨g, cap, cur, h1, h2, h3, h4⟩
  · exact .inl h2
  · refine .inr ⟨g, cap, cur, h1, h2, ?_, h4⟩
    rw [hb.block g (Array.getElem?_eq_some_iff.1 h3).1]
    exact h3
theorem owns_src {w : World} {B : Nat} {v : Value} {l : List UInt8} (h : OwnsBytes w B v l) (hl : 1 ≤ l.length) :
    ∃ g cap, v = .slice (some ⟨g, 0, none⟩) l.length cap ∧ ∀ (j : Nat) u, (cellsB l)[j]? = some u → w.cell? ((⟨g, 0, none⟩ : Addr).add j) = some u := by
  have h0 := h
  rcases h.2 with ⟨rfl, hz⟩ | ⟨g, cap, cur, rfl, _, hg, hc, _, hcs, ht⟩
  · omega
  · refine ⟨g, cap, rfl, fun j u hj => ?_⟩
    have hlt : j < (cellsB l).length := (List.getElem?_eq_some_iff.1 hj).1
    rw [cellsB_length] at hlt
    have := World.ownsRow.cellAt (w := w) (base := B) (e := 5) (size := 1) (g := g) (cap := cap) (n := l.length) (xs := cellsB l) h0 j (by omega)
    rw [add_addr, Nat.zero_add, this, hj]
theorem owns_more {w : World} {B : Nat} {v : Value} {l m : List UInt8} (h : w.ownsRow B 5 1 v (l.length + m.length) (cellsB l ++ cellsB m)) : OwnsBytes w B v (l ++ m) := by
  unfold OwnsBytes
  rw [List.length_append]
  unfold cellsB at *
  rw [List.map_append]
  exact h
end Go.Proofs.YtnmkhbelmdokmaaGreatDoor
/- The contracts of the reference's plain, mark and Mark. -/
namespace Go.Proofs.YtnmkhbelmdokmaaGreatDoor
open Go.RowKit
set_option maxHeartbeats 1000000 in
theorem Rplain_n (n : Int) (w : World) :
    Calls Tryz.prog 137 #[.int .u8 n] w fun e w' => e = .returned (.bool (Pct.plainN n)) ∧ w' = w := by
  cases hl : letN n
  · cases hd : digN n
    · by_cases h1 : n = 45
      · subst h1
        go_enter Tryz.func137, Tryz.ntmps137
        go_wp2_with (first
          | (go_at_call 68; refine (RIsLetter_n _ _).mono ?_; rintro e w1 ⟨rfl, rfl⟩; rw [hl])
          | (go_at_call 69; refine (RIsDigit_n _ _).mono ?_; rintro e w1 ⟨rfl, rfl⟩; rw [hd]))
        go_ret
        exact ⟨rfl, rfl⟩
      by_cases h2 : n = 46
      · subst h2
        go_enter Tryz.func137, Tryz.ntmps137
        go_wp2_with (first
          | (go_at_call 68; refine (RIsLetter_n _ _).mono ?_; rintro e w1 ⟨rfl, rfl⟩; rw [hl])
          | (go_at_call 69; refine (RIsDigit_n _ _).mono ?_; rintro e w1 ⟨rfl, rfl⟩; rw [hd]))
        go_ret
        exact ⟨rfl, rfl⟩
      by_cases h3 : n = 95
      · subst h3
        go_enter Tryz.func137, Tryz.ntmps137
        go_wp2_with (first
          | (go_at_call 68; refine (RIsLetter_n _ _).mono ?_; rintro e w1 ⟨rfl, rfl⟩; rw [hl])
          | (go_at_call 69; refine (RIsDigit_n _ _).mono ?_; rintro e w1 ⟨rfl, rfl⟩; rw [hd]))
        go_ret
        exact ⟨rfl, rfl⟩
      have hp : Pct.plainN n = decide (n = 126) := by
        unfold Pct.plainN
        have e1 : decide ((65 ≤ n ∧ n ≤ 90) ∨ (97 ≤ n ∧ n ≤ 122)) = false := hl
        have e2 : decide (48 ≤ n ∧ n ≤ 57) = false := hd
        rw [e1, e2]
        simp [h1, h2, h3]
      rw [hp]
      by_cases h4 : n = 126
      · subst h4
        go_enter Tryz.func137, Tryz.ntmps137
        go_wp2_with (first
          | (go_at_call 68; refine (RIsLetter_n _ _).mono ?_; rintro e w1 ⟨rfl, rfl⟩; rw [hl])
          | (go_at_call 69; refine (RIsDigit_n _ _).mono ?_; rintro e w1 ⟨rfl, rfl⟩; rw [hd]))
        go_ret
        exact ⟨rfl, rfl⟩
      · have q1 := beq_eq_false_iff_ne.2 h1
        have q2 := beq_eq_false_iff_ne.2 h2
        have q3 := beq_eq_false_iff_ne.2 h3
        have q4 := beq_eq_false_iff_ne.2 h4
        rw [decide_eq_false h4]
        clear h1 h2 h3 h4 hp
        go_enter Tryz.func137, Tryz.ntmps137
        go_wp2_with (first
          | (go_at_call 68; refine (RIsLetter_n _ _).mono ?_; rintro e w1 ⟨rfl, rfl⟩; rw [hl])
          | (go_at_call 69; refine (RIsDigit_n _ _).mono ?_; rintro e w1 ⟨rfl, rfl⟩; rw [hd]))
        go_ret
        exact ⟨rfl, rfl⟩
    · have hp : Pct.plainN n = true := by
        unfold Pct.plainN
        have e2 : decide (48 ≤ n ∧ n ≤ 57) = true := hd
        rw [e2]; simp
      rw [hp]
      clear hp
      go_enter Tryz.func137, Tryz.ntmps137
      go_wp2_with (first
        | (go_at_call 68; refine (RIsLetter_n _ _).mono ?_; rintro e w1 ⟨rfl, rfl⟩; rw [hl])
        | (go_at_call 69; refine (RIsDigit_n _ _).mono ?_; rintro e w1 ⟨rfl, rfl⟩; rw [hd]))
      go_ret
      exact ⟨rfl, rfl⟩
  · have hp : Pct.plainN n = true := by
      unfold Pct.plainN
      have e2 : decide ((65 ≤ n ∧ n ≤ 90) ∨ (97 ≤ n ∧ n ≤ 122)) = true := hl
      rw [e2]; simp
    rw [hp]
    clear hp
    go_enter Tryz.func137, Tryz.ntmps137
    go_wp2_with (go_at_call 68; refine (RIsLetter_n _ _).mono ?_; rintro e w1 ⟨rfl, rfl⟩; rw [hl])
    go_ret
    exact ⟨rfl, rfl⟩
theorem conv_two (W : World) (n : Nat) (a b : UInt8) (hn : n = W.heap.size) : (convert 62 9 (.slice (some ⟨n, 0, none⟩) 2 2)).run Tryz.prog (W.alloc (.cells #[.int .u8 a.toNat, .int .u8 b.toNat] 5)) = .ok (.string (str [a, b])) (W.alloc (.cells #[.int .u8 a.toNat, .int .u8 b.toNat] 5)) := by
  subst hn
  exact conv_owned (B := W.heap.size) (owns_new W _ [a, b] 2 rfl rfl (by decide))
theorem conv_two_drew (W : World) (n : Nat) (a b : UInt8) (hn : n = W.heap.size) : (convert 62 9 (.slice (some ⟨n, 0, none⟩) 2 2)).run Tryz.prog (W.alloc (.cells #[.int .u8 a.toNat, .int .u8 b.toNat] 5)).drew = .ok (.string (str [a, b])) (W.alloc (.cells #[.int .u8 a.toNat, .int .u8 b.toNat] 5)).drew := by
  subst hn
  exact conv_owned (B := W.heap.size) (World.ownsRow.drew (owns_new W _ [a, b] 2 rfl rfl (by decide)))
set_option maxHeartbeats 2000000 in
set_option maxRecDepth 100000 in
theorem Rmark_any (c : UInt8) (w : World) :
    Calls Tryz.prog 138 #[.int .u8 c.toNat] w fun e w' => e = .returned (.string (str (Pct.mk c))) ∧ Below w.heap.size w w' := by
  have hc := byte_in c
  have hc2 := hc.2
  have d1 : (c.toNat : Int).tdiv 16 = ((c.toNat / 16 : Nat) : Int) := by rw [Int.tdiv_eq_ediv_of_nonneg (by omega)]; omega
  have m1 : (c.toNat : Int).tmod 16 = ((c.toNat % 16 : Nat) : Int) := by rw [Int.tmod_eq_emod_of_nonneg (by omega)]; omega
  have l1 : c.toNat / 16 < lit16.size := by show c.toNat / 16 < 16; omega
  have l2 : c.toNat % 16 < lit16.size := by show c.toNat % 16 < 16; omega
  have i1 : (c.toNat : Int) / 16 < 16 := by omega
  have i2 : (c.toNat : Int) % 16 < 16 := by omega
  have i3 : 0 ≤ (c.toNat : Int) / 16 := by omega
  have i4 : 0 ≤ (c.toNat : Int) % 16 := by omega
  have hcv := conv_two
  have hcd := conv_two_drew
  have hsm : ∀ a b : UInt8, (str [a, b]).size = 2 := fun _ _ => rfl
  have hs37 : (⟨#[37]⟩ : ByteArray).size = 1 := rfl
  go_enter Tryz.func138, Tryz.ntmps138
  go_wp2
  go_region
  go_wp2
  go_ret
  refine ⟨?_, by repeat (first | exact Below.refl _ _ | apply Below.drew | exact (Below.refl _ w).alloc (Nat.le_refl _) _)⟩
  have e : ∀ a b : UInt8, (⟨#[37]⟩ : ByteArray) ++ str [a, b] = str [37, a, b] := fun a b => str_add [37] [a, b]
  have e1 : lit16[c.toNat / 16] = Pct.hexU (c.toNat / 16) := UInt8.toNat_inj.1 (lit_at _ l1)
  have e2 : lit16[c.toNat % 16] = Pct.hexU (c.toNat % 16) := UInt8.toNat_inj.1 (lit_at _ l2)
  show Ending.returned (.string ((⟨#[37]⟩ : ByteArray) ++ str [lit16[c.toNat / 16], lit16[c.toNat % 16]])) = _
  rw [e, e1, e2]
  rfl
end Go.Proofs.YtnmkhbelmdokmaaGreatDoor
/- The contract of the reference's Mark. -/
namespace Go.Proofs.YtnmkhbelmdokmaaGreatDoor
open Go.RowKit
/-- Whether a byte stays, as far as 'free' has been looked through. -/
def staysTo (free : ByteArray) (c : UInt8) (m : Nat) : Bool := Pct.plain c || (free.data.toList.take m).contains c
theorem staysTo_zero (free : ByteArray) (c : UInt8) : staysTo free c 0 = Pct.plainN (c.toNat : Int) := by simp [staysTo, Pct.plain]
theorem staysTo_all (free : ByteArray) (c : UInt8) (m : Nat) (h : ¬ m < free.size) : staysTo free c m = Pct.stays free.data.toList c := by
  unfold staysTo Pct.stays
  rw [List.take_of_length_le (by rw [← size_data0]; omega)]
theorem staysTo_yes (free : ByteArray) (c : UInt8) (m : Nat) (h : m < free.size) (hs : staysTo free c m = true) : staysTo free c (m + 1) = true := by
  unfold staysTo at hs ⊢
  rw [Asc.take_snoc free.data.toList m h, List.contains_append, ← Bool.or_assoc, hs]
  rfl
theorem staysTo_no (free : ByteArray) (c : UInt8) (m : Nat) (h : m < free.size) (hs : staysTo free c m = false) : staysTo free c (m + 1) = decide (free[m] = c) := by
  unfold staysTo at hs ⊢
  rw [Asc.take_snoc free.data.toList m h, List.contains_append, ← Bool.or_assoc, hs, Bool.false_or]
  have e : free.data.toList[m] = free[m] := rfl
  rw [e]
  by_cases hc : free[m] = c
  · simp [hc]
  · rw [decide_eq_false hc]
    simp
    exact fun e => hc e.symm
set_option maxHeartbeats 2000000 in
set_option maxRecDepth 100000 in
theorem RMark_any (s free : ByteArray) (w : World) (hs : s.size ≤ 1000000000) (hf : free.size ≤ 1000000000) :
    Calls Tryz.prog 105 #[.string s, .string free] w fun e w' => e = .returned (.string (str (Pct.mark free.data.toList s.data.toList))) ∧ Below w.heap.size w w' := by
  go_enter Tryz.func105, Tryz.ntmps105
  go_wp2
  go_loopw [5, 6] (fun x i wr => ∃ (k : Nat) (acc : ByteArray), k ≤ s.size ∧ i = .int .i64 k ∧ x = .string acc ∧ acc.size ≤ 3 * k ∧ Hid (acc.data.toList = Pct.mark free.data.toList (s.data.toList.take k)) ∧ Below w.heap.size w wr) (fun _ i _ => s.size - (intOf i).toNat)
  case atStart => exact ⟨0, ⟨#[]⟩, Nat.zero_le _, rfl, rfl, Nat.le_refl _, rfl, Below.refl _ _⟩
  case round =>
    obtain ⟨k, acc, hk, rfl, rfl, hal, HM, hbw⟩ := hrel
    by_cases hlt : k < s.size
    · have HN : Hid _ := Pct.mark_next free.data.toList s.data.toList k hlt
      have hwz := hbw.size
      go_wp2_with (go_at_call 137; refine (Rplain_n _ _).mono ?_; rintro e w1 ⟨rfl, hw1⟩; rw [hw1]; clear hw1)
      go_loopw [7, 8] (fun b i wi => ∃ m d : Nat, m ≤ free.size ∧ i = .int .i64 m ∧ b = .bool (staysTo free s[k] m) ∧ wi = wr.drewN d) (fun _ i _ => free.size - (intOf i).toNat)
      case atStart => exact ⟨0, 0, Nat.zero_le _, rfl, by rw [staysTo_zero], rfl⟩
      case round =>
        obtain ⟨m, d, hm, rfl, rfl, rfl⟩ := hrel
        by_cases hml : m < free.size
        · cases hst : staysTo free s[k] m
          · have HS := staysTo_no free s[k] m hml hst
            by_cases hc : free[m] = s[k]
            · have hq := byte_eq_yes hc
              rw [decide_eq_true hc] at HS
              have HS : Hid _ := HS
              clear hc hst
              go_wp2
              go_quiet (fail)
              go_wp2
              go_roundw
              case rel => exact ⟨m + 1, d + nq, by omega, by go_num, by rw [HS.out], by simp⟩
              case measure => simp [intOf]; omega
            · have hq := byte_eq_no hc
              rw [decide_eq_false hc] at HS
              have HS : Hid _ := HS
              clear hc hst
              go_wp2
              go_quiet (fail)
              go_wp2
              go_roundw
              case rel => exact ⟨m + 1, d + nq, by omega, by go_num, by rw [HS.out], by simp⟩
              case measure => simp [intOf]; omega
          · have HS : Hid _ := staysTo_yes free s[k] m hml hst
            clear hst
            go_wp2
            go_quiet (fail)
            go_wp2
            go_roundw
            case rel => exact ⟨m + 1, d + nq, by omega, by go_num, by rw [HS.out], by simp⟩
            case measure => simp [intOf]; omega
        · rw [staysTo_all free s[k] m hml]
          have hbd : Below w.heap.size w (wr.drewN d) := ⟨hbw.os, hbw.tape, hbw.output, by simpa using hbw.size, by simpa using hbw.block⟩
          cases hst : Pct.stays free.data.toList s[k]
          · have HO : Hid _ := Pct.one_no hst
            clear hst
            have hmk : (str (Pct.mk s[k])).size = 3 := rfl
            go_wp2_with (go_at_call 138; refine (Rmark_any _ _).mono ?_; rintro e w2 ⟨rfl, hb2⟩)
            go_roundw
            case rel => exact ⟨k + 1, acc ++ str (Pct.mk s[k]), by omega, by go_num, rfl, by rw [ByteArray.size_append, hmk]; omega, by show _ = _; rw [ByteArray.data_append, Array.toList_append, str_data, HM.out, HN.out]; exact congrArg _ HO.out.symm, bel hbd hb2⟩
            case measure => simp [intOf]; omega
          · have HO : Hid _ := Pct.one_yes hst
            clear hst
            have hcs := cut_size s k (k + 1) (by omega)
            have hco : Hid _ := cut_one s k hlt
            go_wp2
            go_roundw
            case rel => exact ⟨k + 1, acc ++ s.extract k (k + 1), by omega, by go_num, rfl, by rw [ByteArray.size_append, hcs]; omega, by show _ = _; rw [ByteArray.data_append, Array.toList_append, hco.out, HM.out, HN.out]; exact congrArg _ HO.out.symm, hbd⟩
            case measure => simp [intOf]; omega
    · have HN : Hid (acc.data.toList = Pct.mark free.data.toList s.data.toList) := by
        have := HM.out
        rw [List.take_of_length_le (by rw [← size_data0]; omega)] at this
        exact this
      go_wp2
      go_ret
      exact ⟨ret_text HN.out, hbw⟩
end Go.Proofs.YtnmkhbelmdokmaaGreatDoor
/- The contracts of the reference's Nibble and Unmark. -/
namespace Pct
theorem getD_drop (l : List UInt8) (k j : Nat) : (l.drop k).getD j 0 = l.getD (k + j) 0 := by
  rw [List.getD_eq_getElem?_getD, List.getD_eq_getElem?_getD, List.getElem?_drop]
theorem first_one (l : List UInt8) (k : Nat) (h : ¬ (l.getD k 0 = 37 ∧ k + 3 ≤ l.length ∧ Asc.hexOk (Asc.bt (l.getD (k + 1) 0)) = true ∧ Asc.hexOk (Asc.bt (l.getD (k + 2) 0)) = true)) : first (l.drop k) = (l.getD k 0, 1) := by
  unfold first
  rw [getD_drop, getD_drop, getD_drop, List.length_drop, if_neg]
  · rfl
  · rintro ⟨h1, h2, h3⟩
    exact h ⟨h1, by omega, h3⟩
theorem first_three (l : List UInt8) (k : Nat) (h : l.getD k 0 = 37 ∧ k + 3 ≤ l.length ∧ Asc.hexOk (Asc.bt (l.getD (k + 1) 0)) = true ∧ Asc.hexOk (Asc.bt (l.getD (k + 2) 0)) = true) : first (l.drop k) = (UInt8.ofNat (Asc.hexV (Asc.bt (l.getD (k + 1) 0)) * 16 + Asc.hexV (Asc.bt (l.getD (k + 2) 0))).toNat, 3) := by
  unfold first
  rw [getD_drop, getD_drop, getD_drop, List.length_drop, if_pos ⟨h.1, by omega, h.2.2⟩]
end Pct
namespace Go.Proofs.YtnmkhbelmdokmaaGreatDoor
open Go.RowKit
theorem RNibble_any (c : UInt8) (w : World) :
    Calls Tryz.prog 134 #[.int .u8 c.toNat] w fun e w' => e = .returned (.int .u32 (nibV (Asc.bt c))) ∧ w' = w := by
  go_enter Tryz.func134, Tryz.ntmps134
  go_wp2_with (go_at_call 160; refine (Rnibble_any _ _).mono ?_; rintro e w1 ⟨rfl, rfl⟩)
  go_ret
  exact ⟨rfl, rfl⟩
theorem ownsB_of {w : World} {B : Nat} {v x : Value} {l : List UInt8} {c : UInt8} (hx : x = .int .u8 c.toNat) (ho : w.ownsRow B 5 1 v (l.length + 1) (cellsB l ++ [x])) : OwnsBytes w B v (l ++ [c]) := by
  subst hx
  unfold OwnsBytes
  rw [List.length_append]
  simpa [cellsB] using ho
theorem unmark_one (s : ByteArray) (k : Nat) (acc : List UInt8) (hlt : k < s.size) (h : ¬ (s[k] = 37 ∧ k + 3 ≤ s.size ∧ Asc.hexOk (Asc.bt (s.data.toList.getD (k + 1) 0)) = true ∧ Asc.hexOk (Asc.bt (s.data.toList.getD (k + 2) 0)) = true)) (he : acc ++ Pct.unmark (s.data.toList.drop k) = Pct.unmark s.data.toList) : acc ++ [s[k]] ++ Pct.unmark (s.data.toList.drop (k + 1)) = Pct.unmark s.data.toList := by
  have hf := Pct.first_one s.data.toList k (by rw [getD_at s k hlt, ← size_data0]; exact h)
  rw [getD_at s k hlt] at hf
  rw [← he, Pct.unmark_at _ k (by rw [← size_data0]; exact hlt), hf]
  simp
theorem unmark_three (s : ByteArray) (k : Nat) (acc : List UInt8) (hlt : k + 2 < s.size) (h : s[k] = 37) (h1 : Asc.hexOk (Asc.bt s[k + 1]) = true) (h2 : Asc.hexOk (Asc.bt s[k + 2]) = true) (he : acc ++ Pct.unmark (s.data.toList.drop k) = Pct.unmark s.data.toList) : acc ++ [UInt8.ofNat (Asc.hexV (Asc.bt s[k + 1]) * 16 + Asc.hexV (Asc.bt s[k + 2])).toNat] ++ Pct.unmark (s.data.toList.drop (k + 3)) = Pct.unmark s.data.toList := by
  have hf := Pct.first_three s.data.toList k (by rw [getD_at s k (by omega), getD_at s (k + 1) (by omega), getD_at s (k + 2) (by omega), ← size_data0]; exact ⟨h, by omega, h1, h2⟩)
  rw [getD_at s (k + 1) (by omega), getD_at s (k + 2) (by omega)] at hf
  rw [← he, Pct.unmark_at _ k (by rw [← size_data0]; omega), hf]
  simp
set_option maxHeartbeats 2000000 in
set_option maxRecDepth 100000 in
theorem RUnmark_any (s : ByteArray) (w : World) (hs : s.size ≤ 1000000000) :
    Calls Tryz.prog 100 #[.string s] w fun e w' => e = .returned (.string (str (Pct.unmark s.data.toList))) ∧ Below w.heap.size w w' := by
  obtain ⟨i0, hi, hz0, hz1, hz2⟩ := info_parts infoByte
  go_enter Tryz.func100, Tryz.ntmps100
  go_wp2
  go_loopw [3, 4] (fun v i wr => ∃ (k : Nat) (acc : List UInt8), k ≤ s.size ∧ i = .int .i64 k ∧ OwnsBytes wr w.heap.size v acc ∧ acc.length ≤ k ∧ Hid (acc ++ Pct.unmark (s.data.toList.drop k) = Pct.unmark s.data.toList) ∧ Below w.heap.size w wr) (fun _ i _ => s.size - (intOf i).toNat)
  case atStart => exact ⟨0, [], Nat.zero_le _, rfl, OwnsBytes.nil _ _, Nat.le_refl _, rfl, Below.refl _ _⟩
  case round =>
    obtain ⟨k, acc, hk, rfl, hown, hal, HE, hbel⟩ := hrel
    have hsz := hbel.size
    by_cases hlt : k < s.size
    · by_cases hp : s[k] = 37
      case neg =>
        have HN : Hid _ := unmark_one s k acc hlt (fun h => hp h.1) HE.out
        have hq : (((s[k].toNat : Nat) : Int) == 37) = false := by
          rw [beq_eq_false_iff_ne]
          intro e
          exact hp (UInt8.toNat_inj.1 (by have : (37 : UInt8).toNat = 37 := rfl; omega))
        clear hp
        go_wp2_with (first | (at_builtin; refine wpList_append_own _ rfl _ _ 62 rfl w.heap.size 5 i0 (.int .u8 0) 1 1 Tryz.underlying62 hi hz0 hz1 hz2 rfl (by decide) _ _ _ rfl (World.ownsRow.alloc hown _) ⟨wr.heap.size, 0, none⟩ 1 1 [.int .u8 s[k].toNat] rfl rfl (cell_one_new _ _ _) (fun x hx => by simp at hx; subst hx; rfl) (by unfold maxLen; omega) (by omega) (by simp; omega) ?_; intro v' w3 hown' hgrow3 hnil3))
        go_roundw
        case rel => exact ⟨k + 1, acc ++ [s[k]], by omega, by go_num, ownsB_of rfl hown', by rw [List.length_append, List.length_singleton]; omega, HN, (hbel.alloc hsz _).grown hgrow3 (by simp; omega) (fun q hq => (World.ownsRow.lt hown q hq).1)⟩
        case measure => simp [intOf]; omega
      have hq : (((s[k].toNat : Nat) : Int) == 37) = true := by rw [hp]; rfl
      by_cases h3 : k + 2 < s.size
      case neg =>
        have HN : Hid _ := unmark_one s k acc hlt (fun h => h3 (by omega)) HE.out
        clear hp
        go_wp2_with (first | (at_builtin; refine wpList_append_own _ rfl _ _ 62 rfl w.heap.size 5 i0 (.int .u8 0) 1 1 Tryz.underlying62 hi hz0 hz1 hz2 rfl (by decide) _ _ _ rfl (World.ownsRow.alloc hown _) ⟨wr.heap.size, 0, none⟩ 1 1 [.int .u8 s[k].toNat] rfl rfl (cell_one_new _ _ _) (fun x hx => by simp at hx; subst hx; rfl) (by unfold maxLen; omega) (by omega) (by simp; omega) ?_; intro v' w3 hown' hgrow3 hnil3))
        go_roundw
        case rel => exact ⟨k + 1, acc ++ [s[k]], by omega, by go_num, ownsB_of rfl hown', by rw [List.length_append, List.length_singleton]; omega, HN, (hbel.alloc hsz _).grown hgrow3 (by simp; omega) (fun q hq => (World.ownsRow.lt hown q hq).1)⟩
        case measure => simp [intOf]; omega
      have hb1 := byte_bd s[k + 1]
      have hb2 := byte_bd s[k + 2]
      cases hx1 : Asc.hexOk (Asc.bt s[k + 1])
      case false =>
        have HN : Hid _ := unmark_one s k acc hlt (fun h => by have := h.2.2.1; rw [getD_at s (k + 1) (by omega), hx1] at this; cases this) HE.out
        have hn1 := nib_no _ hx1
        clear hp
        go_wp2_with (first | (go_at_call 134; refine (RNibble_any _ _).mono ?_; rintro e w1 ⟨rfl, hw⟩; rw [hw]; clear hw; first | rw [hn1]) | (at_builtin; refine wpList_append_own _ rfl _ _ 62 rfl w.heap.size 5 i0 (.int .u8 0) 1 1 Tryz.underlying62 hi hz0 hz1 hz2 rfl (by decide) _ _ _ rfl (World.ownsRow.alloc hown _) ⟨wr.heap.size, 0, none⟩ 1 1 [.int .u8 s[k].toNat] rfl rfl (cell_one_new _ _ _) (fun x hx => by simp at hx; subst hx; rfl) (by unfold maxLen; omega) (by omega) (by simp; omega) ?_; intro v' w3 hown' hgrow3 hnil3))
        go_roundw
        case rel => exact ⟨k + 1, acc ++ [s[k]], by omega, by go_num, ownsB_of rfl hown', by rw [List.length_append, List.length_singleton]; omega, HN, (hbel.alloc hsz _).grown hgrow3 (by simp; omega) (fun q hq => (World.ownsRow.lt hown q hq).1)⟩
        case measure => simp [intOf]; omega
      cases hx2 : Asc.hexOk (Asc.bt s[k + 2])
      case false =>
        have HN : Hid _ := unmark_one s k acc hlt (fun h => by have := h.2.2.2; rw [getD_at s (k + 2) (by omega), hx2] at this; cases this) HE.out
        have hn1 := nib_yes _ hx1
        have hn2 := nib_no _ hx2
        have hv1 := Asc.hexV_bd (Asc.bt s[k + 1])
        obtain ⟨hv1a, hv1b⟩ := hv1
        clear hp
        go_wp2_with (first | (go_at_call 134; refine (RNibble_any _ _).mono ?_; rintro e w1 ⟨rfl, hw⟩; rw [hw]; clear hw; first | rw [hn1] | rw [hn2]) | (at_builtin; refine wpList_append_own _ rfl _ _ 62 rfl w.heap.size 5 i0 (.int .u8 0) 1 1 Tryz.underlying62 hi hz0 hz1 hz2 rfl (by decide) _ _ _ rfl (World.ownsRow.alloc hown _) ⟨wr.heap.size, 0, none⟩ 1 1 [.int .u8 s[k].toNat] rfl rfl (cell_one_new _ _ _) (fun x hx => by simp at hx; subst hx; rfl) (by unfold maxLen; omega) (by omega) (by simp; omega) ?_; intro v' w3 hown' hgrow3 hnil3))
        go_roundw
        case rel => exact ⟨k + 1, acc ++ [s[k]], by omega, by go_num, ownsB_of rfl hown', by rw [List.length_append, List.length_singleton]; omega, HN, (hbel.alloc hsz _).grown hgrow3 (by simp; omega) (fun q hq => (World.ownsRow.lt hown q hq).1)⟩
        case measure => simp [intOf]; omega
      have HN : Hid _ := unmark_three s k acc h3 hp hx1 hx2 HE.out
      have hn1 := nib_yes _ hx1
      have hn2 := nib_yes _ hx2
      obtain ⟨hv1a, hv1b⟩ := Asc.hexV_bd (Asc.bt s[k + 1])
      obtain ⟨hv2a, hv2b⟩ := Asc.hexV_bd (Asc.bt s[k + 2])
      clear hp
      go_upto_region 6 with (go_at_call 134; refine (RNibble_any _ _).mono ?_; rintro e w1 ⟨rfl, hw⟩; rw [hw]; clear hw; first | rw [hn1] | rw [hn2])
      have hW1 : IntKind.i64.wrap ((k : Int) + 1) = (k : Int) + 1 := by rw [IntKind.wrap_i64]; omega
      have hW2 : IntKind.i64.wrap ((k : Int) + 2) = (k : Int) + 2 := by rw [IntKind.wrap_i64]; omega
      have hT1 : ((k : Int) + 1).toNat = k + 1 := by omega
      have hT2 : ((k : Int) + 2).toNat = k + 2 := by omega
      have hI1 : 0 ≤ (k : Int) + 1 ∧ (k : Int) + 1 < (s.size : Int) := by omega
      have hI2 : 0 ≤ (k : Int) + 2 ∧ (k : Int) + 2 < (s.size : Int) := by omega
      have hU1 : IntKind.u32.wrap (Asc.hexV (Asc.bt s[k + 1]) * 16) = Asc.hexV (Asc.bt s[k + 1]) * 16 := by rw [IntKind.wrap_u32]; omega
      have hU2 : IntKind.u32.wrap (Asc.hexV (Asc.bt s[k + 1]) * 16 + Asc.hexV (Asc.bt s[k + 2])) = Asc.hexV (Asc.bt s[k + 1]) * 16 + Asc.hexV (Asc.bt s[k + 2]) := by rw [IntKind.wrap_u32]; omega
      have hU3 : IntKind.u8.wrap (Asc.hexV (Asc.bt s[k + 1]) * 16 + Asc.hexV (Asc.bt s[k + 2])) = Asc.hexV (Asc.bt s[k + 1]) * 16 + Asc.hexV (Asc.bt s[k + 2]) := by rw [IntKind.wrap_u8]; omega
      have hod := World.ownsRow.drew hown
      have HV : Hid (Value.int .u8 (Asc.hexV (Asc.bt s[k + 1]) * 16 + Asc.hexV (Asc.bt s[k + 2])) = .int .u8 ((UInt8.ofNat (Asc.hexV (Asc.bt s[k + 1]) * 16 + Asc.hexV (Asc.bt s[k + 2])).toNat).toNat : Int)) := by
        show _ = _
        congr 1
        simp
        omega
      go_region_held_law (fun _ => True) (exact trivial) (first
        | (go_at_call 134; refine (RNibble_any _ _).mono ?_; rintro e w1 ⟨rfl, hw⟩; rw [hw]; clear hw; first | rw [hn1] | rw [hn2])
        | (refine step_append_lies _ rfl (.tmp 38) (.tmp 52) 62 rfl w.heap.size 5 i0 (.int .u8 0) 1 1 Tryz.underlying62 hi hz0 hz1 hz2 rfl (by decide) _ _ _ rfl (World.ownsRow.alloc hod _) ⟨wr.heap.size, 0, none⟩ 1 1 [.int .u8 (Asc.hexV (Asc.bt s[k + 1]) * 16 + Asc.hexV (Asc.bt s[k + 2]))] rfl rfl (cell_one_new _ _ _) (fun x hx => by simp at hx; subst hx; rfl) (by decide) (by unfold maxLen; omega) (by omega) (by simp; omega) _ rfl ?_; intro g cap w3 hown' hgrow3 hat hglt))
      all_goals go_wp2
      all_goals go_roundw
      all_goals first
        | exact ⟨k + 3, acc ++ [UInt8.ofNat (Asc.hexV (Asc.bt s[k + 1]) * 16 + Asc.hexV (Asc.bt s[k + 2])).toNat], by omega, by go_num, ownsB_of HV.out hown', by rw [List.length_append, List.length_singleton]; omega, HN, (hbel.drew.alloc hsz _).grown hgrow3 (by simp; omega) (fun q hq => (World.ownsRow.lt hown q hq).1)⟩
        | (simp [intOf]; omega)
    · have HN : Hid (acc = Pct.unmark s.data.toList) := by
        have := HE.out
        rw [List.drop_of_length_le (by rw [← size_data0]; omega), Pct.unmark_nil, List.append_nil] at this
        exact this
      have hcv := conv_owned hown
      go_wp2
      go_ret
      exact ⟨by rw [← HN.out]; rfl, hbel⟩
end Go.Proofs.YtnmkhbelmdokmaaGreatDoor
