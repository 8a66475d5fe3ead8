/- Texts laid as one. -/
import Derived.Test.YtmmpbjpeiclacaaGreatDoorKBase
import Derived.Test.YtmmpbjpeiclacaaGreatDoorKMath
import Derived.OwnWalk
import Derived.Test.YtmmpbjpeiclacaaGreatDoorKShelf
import Derived.Laws.RangeAny
/- The contracts of utf.shape and utf.part. -/
namespace Utf
def lo' (b : Nat) : Nat := if sz b ≤ 1 then 0 else lo b
def hi' (b : Nat) : Nat := if sz b ≤ 1 then 0 else hi b
def lowAt (b k : Nat) : Nat := if k = 1 then lo' b else 128
def highAt (b k : Nat) : Nat := if k = 1 then hi' b else 191
theorem sz_le4 (b : Nat) : sz b ≤ 4 := by
  unfold sz
  repeat' split
  all_goals omega
theorem lo_hi' {b : Nat} (h : ¬ sz b ≤ 1) : lo' b = lo b ∧ hi' b = hi b := by unfold lo' hi'; rw [if_neg h, if_neg h]; exact ⟨rfl, rfl⟩
theorem bad_at (b k x : Nat) (h : 1 < sz b) (hb : x < lowAt b k ∨ highAt b k < x) : (k = 1 → x < lo b ∨ hi b < x) ∧ (k ≠ 1 → x < 128 ∨ 191 < x) := by
  have e' := lo_hi' (b := b) (by omega)
  unfold lowAt highAt at hb
  rw [e'.1, e'.2] at hb
  constructor
  · intro e; rw [if_pos e, if_pos e] at hb; exact hb
  · intro e; rw [if_neg e, if_neg e] at hb; exact hb
theorem good_at (b k x : Nat) (h : 1 < sz b) (hb : ¬ (x < lowAt b k ∨ highAt b k < x)) : (k = 1 → lo b ≤ x ∧ x ≤ hi b) ∧ (k ≠ 1 → 128 ≤ x ∧ x ≤ 191) := by
  have e' := lo_hi' (b := b) (by omega)
  unfold lowAt highAt at hb
  rw [e'.1, e'.2] at hb
  constructor
  · intro e; rw [if_pos e, if_pos e] at hb; omega
  · intro e; rw [if_neg e, if_neg e] at hb; omega
theorem part_fail (l : List UInt8) (k : Nat) (h1 : 1 ≤ k) (hk : k ≤ (part l).1) (hs : k < sz (at' l 0)) (hb : at' l k < lowAt (at' l 0) k ∨ highAt (at' l 0) k < at' l k) : part l = (k, false) := by
  have hs4 := sz_le4 (at' l 0)
  obtain ⟨b1, b2⟩ := bad_at _ _ _ (by omega) hb
  clear hb
  have h3 : k = 1 ∨ k = 2 ∨ k = 3 := by omega
  unfold part partN at *
  revert hk
  rcases h3 with rfl | rfl | rfl
  · have := b1 rfl
    repeat' split
    all_goals intro hk
    all_goals first | rfl | (exfalso; omega)
  · have := b2 (by omega)
    repeat' split
    all_goals intro hk
    all_goals dsimp only at hk
    all_goals first | rfl | (exfalso; omega)
  · have := b2 (by omega)
    repeat' split
    all_goals intro hk
    all_goals dsimp only at hk
    all_goals first | rfl | (exfalso; omega)
theorem part_good (l : List UInt8) (k : Nat) (h1 : 1 ≤ k) (hk : k ≤ (part l).1) (hs : k < sz (at' l 0)) (hl : k < l.length) (hb : ¬ (at' l k < lowAt (at' l 0) k ∨ highAt (at' l 0) k < at' l k)) : k + 1 ≤ (part l).1 := by
  have hs4 := sz_le4 (at' l 0)
  obtain ⟨b1, b2⟩ := good_at _ _ _ (by omega) hb
  clear hb
  have h3 : k = 1 ∨ k = 2 ∨ k = 3 := by omega
  unfold part partN at *
  revert hk
  rcases h3 with rfl | rfl | rfl
  · have := b1 rfl
    repeat' split
    all_goals intro hk
    all_goals dsimp only at hk ⊢
    all_goals omega
  · have := b2 (by omega)
    repeat' split
    all_goals intro hk
    all_goals dsimp only at hk ⊢
    all_goals omega
  · have := b2 (by omega)
    repeat' split
    all_goals intro hk
    all_goals dsimp only at hk ⊢
    all_goals omega
theorem part_end (l : List UInt8) (k : Nat) (h : l ≠ []) (h1 : 1 ≤ k) (hk : k ≤ (part l).1) (hs : ¬ (k < sz (at' l 0) ∧ k < l.length)) : part l = (k, decide (k = sz (at' l 0))) := by
  have h4 := part_le4 l
  have hn := len_pos h
  have hs4 := sz_le4 (at' l 0)
  have hk4 : k ≤ 4 := by omega
  unfold part partN at *
  revert hk
  repeat' split
  all_goals intro hk
  all_goals dsimp only at hk
  all_goals first | (exfalso; omega) | skip
  all_goals rw [Prod.mk.injEq]
  all_goals refine ⟨by omega, ?_⟩
  all_goals symm
  all_goals first | (apply decide_eq_true; omega) | (apply decide_eq_false; omega)
end Utf
namespace Go.Proofs.YtmmpbjpeiclacaaGreatDoor
open Go.RowKit
theorem at_get (s : ByteArray) (k : Nat) (h : k < s.size) : s[k].toNat = Utf.at' s.data.toList k := by
  unfold Utf.at'
  rw [List.getD_eq_getElem?_getD, List.getElem?_eq_getElem (show k < s.data.toList.length from h)]
  rfl
theorem beq_nat (a b : Nat) : ((a : Int) == (b : Int)) = decide (a = b) := by
  rw [Bool.eq_iff_iff, beq_iff_eq, decide_eq_true_iff]
  omega
theorem quiet_more {w wr : World} (h : ∃ m, wr = w.drewN m) (n : Nat) : ∃ m, wr.drewN n = w.drewN m := by
  obtain ⟨m, rfl⟩ := h
  exact ⟨m + n, World.drewN_drewN _ _ _⟩
set_option maxHeartbeats 1000000 in
set_option maxRecDepth 100000 in
theorem shape_any (b : Nat) (hb : b < 256) (w : World) :
    Calls Tryz.prog 73 #[.int .u8 b] w fun e w' => e = .returned (.tuple #[.int .i64 (Utf.sz b : Nat), .int .u8 (Utf.lo' b : Nat), .int .u8 (Utf.hi' b : Nat)]) ∧ w' = w := by
  go_enter Tryz.func73, Tryz.ntmps73
  go_wp2
  all_goals go_ret3
  all_goals refine ⟨?_, rfl⟩
  all_goals simp only [beq_iff_eq, beq_eq_false_iff_ne, ne_eq] at *
  all_goals unfold Utf.lo' Utf.hi' Utf.sz Utf.lo Utf.hi
  all_goals repeat' split
  all_goals first | rfl | (exfalso; omega)
set_option maxHeartbeats 1000000 in
set_option maxRecDepth 100000 in
theorem part_any (s : ByteArray) (l : List UInt8) (hl : s.data.toList = l) (h : l ≠ []) (w : World) (hz : s.size ≤ 9223372036854775800) :
    Calls Tryz.prog 45 #[.string s] w fun e w' => e = .returned (.tuple #[.int .i64 ((Utf.part l).1 : Nat), .bool (Utf.part l).2]) ∧ ∃ n, w' = w.drewN n := by
  have hlen : s.size = l.length := by rw [← hl]; rfl
  have hn := Utf.len_pos h
  have hb0 := Utf.at_lt l 0
  have HL : Hid (s.data.toList = l) := hl
  have h0 : 0 < s.size := by omega
  have g0 : s[0].toNat = Utf.at' l 0 := by rw [at_get s 0 h0, hl]
  have hs4 := Utf.sz_le4 (Utf.at' l 0)
  clear hl
  go_enter Tryz.func45, Tryz.ntmps45
  go_wp2_with (go_at_call 73; refine (shape_any _ hb0 _).mono ?_; rintro e w1 ⟨rfl, hw⟩; rw [hw]; clear hw)
  go_loopw [2, 5, 6] (fun i lw hg wr => ∃ k : Nat, 1 ≤ k ∧ k ≤ (Utf.part l).1 ∧ i = .int .i64 k ∧ lw = .int .u8 (Utf.lowAt (Utf.at' l 0) k : Nat) ∧ hg = .int .u8 (Utf.highAt (Utf.at' l 0) k : Nat) ∧ Hid (∃ m, wr = w.drewN m)) (fun i _ _ _ => 5 - (intOf i).toNat)
  case atStart => exact ⟨1, Nat.le_refl _, Utf.part_pos l, rfl, rfl, rfl, 0, rfl⟩
  case round =>
    obtain ⟨k, hk1, hk, rfl, rfl, rfl, HW⟩ := hrel
    have hk4 := Utf.part_le4 l
    have hi64 : (k : Int) + 1 ≤ 9223372036854775807 := by omega
    by_cases hlt : k < Utf.sz (Utf.at' l 0) ∧ k < l.length
    · obtain ⟨q1, q2⟩ := hlt
      have hk2 : k < s.size := by omega
      have gk : s[k].toNat = Utf.at' l k := by rw [at_get s k hk2, HL.out]
      by_cases c1 : Utf.at' l k < Utf.lowAt (Utf.at' l 0) k
      · have HN : Hid (Utf.part l = (k, false)) := Utf.part_fail l k hk1 hk q1 (.inl c1)
        by_cases hq : l.length < Utf.sz (Utf.at' l 0)
        all_goals go_wp2
        all_goals go_ret2
        all_goals exact ⟨by rw [HN.out]; rfl, HW.out⟩
      by_cases c2 : Utf.highAt (Utf.at' l 0) k < Utf.at' l k
      · have HN : Hid (Utf.part l = (k, false)) := Utf.part_fail l k hk1 hk q1 (.inr c2)
        by_cases hq : l.length < Utf.sz (Utf.at' l 0)
        all_goals go_wp2
        all_goals go_ret2
        all_goals exact ⟨by rw [HN.out]; rfl, HW.out⟩
      have HN : Hid (k + 1 ≤ (Utf.part l).1) := Utf.part_good l k hk1 hk q1 q2 (by omega)
      have HV : Hid (Utf.lowAt (Utf.at' l 0) (k + 1) = 128 ∧ Utf.highAt (Utf.at' l 0) (k + 1) = 191) := by
        show _ ∧ _
        unfold Utf.lowAt Utf.highAt
        rw [if_neg (by omega), if_neg (by omega)]
        exact ⟨rfl, rfl⟩
      by_cases hq : l.length < Utf.sz (Utf.at' l 0)
      all_goals go_wp2
      all_goals go_roundw
      all_goals first
        | exact ⟨k + 1, by omega, HN.out, by go_num, by rw [HV.out.1]; rfl, by rw [HV.out.2]; rfl, HW⟩
        | (simp [intOf]; omega)
    · have HN : Hid (Utf.part l = (k, decide (k = Utf.sz (Utf.at' l 0)))) := Utf.part_end l k h hk1 hk hlt
      by_cases hq : l.length < Utf.sz (Utf.at' l 0)
      · have q3 : ¬ k < l.length := by omega
        clear hlt
        go_wp2
        go_ret2
        exact ⟨by rw [HN.out]; simp [beq_nat], HW.out⟩
      · have q3 : ¬ k < Utf.sz (Utf.at' l 0) := by omega
        clear hlt
        go_wp2
        go_ret2
        exact ⟨by rw [HN.out]; simp [beq_nat], HW.out⟩
end Go.Proofs.YtmmpbjpeiclacaaGreatDoor
/- The contracts of utf.Cut, and of the law's own 'long'. -/
namespace Go.Proofs.YtmmpbjpeiclacaaGreatDoor
open Go.RowKit
theorem drop_ne {l : List UInt8} {k : Nat} (h : k < l.length) : l.drop k ≠ [] := by
  intro e
  have := congrArg List.length e
  rw [List.length_drop, List.length_nil] at this
  omega
end Go.Proofs.YtmmpbjpeiclacaaGreatDoor
/- The contract of utf.IsText: a range over the bytes, sign by sign. -/
namespace Go.Proofs.YtmmpbjpeiclacaaGreatDoor
open Go.RowKit
theorem get_str (l : List UInt8) (i : Nat) : ((str l).get! i).toNat = Utf.at' l i := by
  unfold Utf.at' str
  rw [List.getD_eq_getElem?_getD]
  simp [ByteArray.get!]
  rfl
/-- What a range over a text meets at a place. -/
theorem dec_at (l : List UInt8) (k : Nat) : Utf8.decode (str l) k = Utf.dec (l.drop k) := by
  rw [Lib.decode_at, str_size, get_str, get_str, get_str, get_str]
  unfold Utf.dec
  rw [List.length_drop, Utf.at_drop, Utf.at_drop, Utf.at_drop, Utf.at_drop]
  rfl
theorem prefix_mark (l : List UInt8) : Lib.hasPrefix l [239, 191, 189] = decide (l.take 3 = [239, 191, 189]) := by
  unfold Lib.hasPrefix
  rw [Bool.eq_iff_iff, decide_eq_true_iff, List.isPrefixOf_iff_prefix, List.prefix_iff_eq_take]
  exact ⟨fun h => h.symm, fun h => h.symm⟩
theorem HasMark_any (l : List UInt8) (w : World) :
    Calls Tryz.prog 62 #[.string (str l), .string ⟨#[239, 191, 189]⟩] w fun e w' => e = .returned (.bool (decide (l.take 3 = [239, 191, 189]))) ∧ w' = w := by
  refine (Tryz.strings_HasPrefix (str l) ⟨#[239, 191, 189]⟩ w).mono ?_
  rintro e w' ⟨rfl, rfl⟩
  exact ⟨ret_bool (by rw [str_data, ← prefix_mark]), rfl⟩
theorem next_any (l : List UInt8) (wr : World) (b k : Nat) (hit : wr.heap[b]? = some (.stringIter (str l) k)) (hk : k < l.length) (ty : TypeId) :
    (Instr.next (.pointer (some ⟨b, 0, none⟩)) true ty).run Tryz.prog wr = .ok (.tuple #[.bool true, .int .i64 k, .int .i32 (Utf.dec (l.drop k)).1]) (wr.iterAt b (str l) (k + (Utf.dec (l.drop k)).2)) := by
  have := Lib.run_next_any_at (P := Tryz.prog) wr b (str l) k ty hit (by rw [str_size]; exact hk)
  rw [dec_at] at this
  exact this
theorem iter_end (l : List UInt8) (wr : World) (b k : Nat) (hit : wr.heap[b]? = some (.stringIter (str l) k)) (hk : ¬ k < l.length) (ty : TypeId) :
    (Instr.next (.pointer (some ⟨b, 0, none⟩)) true ty).run Tryz.prog wr = .ok (.tuple #[.bool false]) wr :=
  Lib.run_next_end_at (P := Tryz.prog) wr b (str l) k ty hit (by rw [str_size]; exact hk)
set_option maxHeartbeats 1000000 in
set_option maxRecDepth 100000 in
theorem IsText_any (l : List UInt8) (w : World) :
    Calls Tryz.prog 41 #[.string (str l)] w fun e w' => e = .returned (.bool (Utf.isText l)) ∧ Below w.heap.size w w' := by
  have hsz := str_size l
  go_enter Tryz.func41, Tryz.ntmps41
  go_wp2
  go_loopw [] (fun wr => ∃ k : Nat, k ≤ l.length ∧ wr.heap[w.heap.size]? = some (.stringIter (str l) k) ∧ Hid (Utf.isText l = Utf.isText (l.drop k)) ∧ Below w.heap.size w wr) (fun wr => l.length - wr.iterPos w.heap.size)
  case atStart => exact ⟨0, Nat.zero_le _, World.iter_heap w (str l) 0, rfl, (Below.refl _ w).alloc (Nat.le_refl _) _⟩
  case round =>
    obtain ⟨k, hk, hit, HE, hbw⟩ := hrel
    by_cases hlt : k < l.length
    · have hne := drop_ne hlt
      have hst := Utf.dec_step (l.drop k) hne
      have hpl := Utf.part_len (l.drop k) hne
      rw [List.length_drop] at hpl
      have hnx := next_any l wr w.heap.size k hit hlt
      have hit2 := Lib.iterAt_heap wr w.heap.size (str l) k (k + (Utf.dec (l.drop k)).2) hit
      have hbw2 := Lib.below_iterAt hbw (k := w.heap.size) (Nat.le_refl _) (str l) (k + (Utf.dec (l.drop k)).2)
      have hext : (str l).extract k l.length = str (l.drop k) := str_from l k
      by_cases hw : (Utf.part (l.drop k)).2 = true
      · have HS : Hid ((Utf.dec (l.drop k)).2 = (Utf.part (l.drop k)).1) := Utf.dec_whole _ hne hw
        have HN : Hid (Utf.isText l = Utf.isText (l.drop (k + (Utf.dec (l.drop k)).2))) := by
          show _ = _
          rw [HE.out, Utf.isText_go _ hne, hw, Bool.true_and, List.drop_drop, HS.out]
        by_cases hc : (Utf.dec (l.drop k)).1 = 65533
        · have hq : (((Utf.dec (l.drop k)).1 : Int) == 65533) = true := by rw [hc]; rfl
          have hm : decide ((l.drop k).take 3 = [239, 191, 189]) = true := decide_eq_true ((Utf.bad_iff _ hne hc).1 hw)
          have hc2 : Hid ((Utf.dec (l.drop k)).1 = 65533) := hc
          clear hc hw
          go_wp2_with (go_at_call 62; refine (HasMark_any _ _).mono ?_; rintro e w1 ⟨rfl, hw1⟩; rw [hw1]; clear hw1)
          go_roundw
          case rel => exact ⟨k + (Utf.dec (l.drop k)).2, by omega, hit2, HN, hbw2⟩
          case measure => simp only [World.iterPos, hit2, hit]; omega
        · have hq : (((Utf.dec (l.drop k)).1 : Int) == 65533) = false := by rw [beq_eq_false_iff_ne]; omega
          have hc2 : Hid (¬ (Utf.dec (l.drop k)).1 = 65533) := hc
          clear hc hw
          go_wp2
          go_roundw
          case rel => exact ⟨k + (Utf.dec (l.drop k)).2, by omega, hit2, HN, hbw2⟩
          case measure => simp only [World.iterPos, hit2, hit]; omega
      · have hw' : (Utf.part (l.drop k)).2 = false := by simpa using hw
        have hd := Utf.dec_bad _ hne hw'
        have hq : (((Utf.dec (l.drop k)).1 : Int) == 65533) = true := by rw [hd]; rfl
        have hm : decide ((l.drop k).take 3 = [239, 191, 189]) = false := by
          apply decide_eq_false
          intro e
          exact hw ((Utf.bad_iff _ hne (by rw [hd])).2 e)
        have HN : Hid (Utf.isText l = false) := by
          show _ = _
          rw [HE.out, Utf.isText_go _ hne, hw', Bool.false_and]
        clear hd hw hw'
        go_wp2_with (go_at_call 62; refine (HasMark_any _ _).mono ?_; rintro e w1 ⟨rfl, hw1⟩; rw [hw1]; clear hw1)
        go_ret
        exact ⟨ret_bool HN.out.symm, hbw2⟩
    · have hnx := iter_end l wr w.heap.size k hit hlt
      have HN : Hid (Utf.isText l = true) := by
        show _ = _
        rw [HE.out, List.drop_of_length_le (by omega), Utf.isText_nil]
      go_wp2
      go_ret
      exact ⟨ret_bool HN.out.symm, hbw⟩
end Go.Proofs.YtmmpbjpeiclacaaGreatDoor
