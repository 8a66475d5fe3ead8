/- The contract of utf.IsText: a range over the bytes, sign by sign. -/
import Derived.Test.YtmmpbjpeiclacaaGreatDoorKUCut
import Derived.Test.YtmmpbjpeiclacaaGreatDoorKShelf
import Derived.Laws.RangeAny
namespace Go.Proofs.YtmmpbjpeiclacaaGreatDoor
open Go.RowKit
theorem get_str (l : List UInt8) (i : Nat) : ((str l).get! i).toNat = Utf.at' l i := by
  unfold Utf.at' str
  rw [List.getD_eq_getElem?_getD]
  simp [ByteArray.get!]
  rfl
/-- What a range over a text meets at a place. -/
theorem dec_at (l : List UInt8) (k : Nat) : Utf8.decode (str l) k = Utf.dec (l.drop k) := by
  rw [Lib.decode_at, str_size, get_str, get_str, get_str, get_str]
  unfold Utf.dec
  rw [List.length_drop, Utf.at_drop, Utf.at_drop, Utf.at_drop, Utf.at_drop]
  rfl
theorem prefix_mark (l : List UInt8) : Lib.hasPrefix l [239, 191, 189] = decide (l.take 3 = [239, 191, 189]) := by
  unfold Lib.hasPrefix
  rw [Bool.eq_iff_iff, decide_eq_true_iff, List.isPrefixOf_iff_prefix, List.prefix_iff_eq_take]
  exact ⟨fun h => h.symm, fun h => h.symm⟩
theorem HasMark_any (l : List UInt8) (w : World) :
    Calls Tryz.prog 62 #[.string (str l), .string ⟨#[239, 191, 189]⟩] w fun e w' => e = .returned (.bool (decide (l.take 3 = [239, 191, 189]))) ∧ w' = w := by
  refine (Tryz.strings_HasPrefix (str l) ⟨#[239, 191, 189]⟩ w).mono ?_
  rintro e w' ⟨rfl, rfl⟩
  exact ⟨ret_bool (by rw [str_data, ← prefix_mark]), rfl⟩
theorem next_any (l : List UInt8) (wr : World) (b k : Nat) (hit : wr.heap[b]? = some (.stringIter (str l) k)) (hk : k < l.length) (ty : TypeId) :
    (Instr.next (.pointer (some ⟨b, 0, none⟩)) true ty).run Tryz.prog wr = .ok (.tuple #[.bool true, .int .i64 k, .int .i32 (Utf.dec (l.drop k)).1]) (wr.iterAt b (str l) (k + (Utf.dec (l.drop k)).2)) := by
  have := Lib.run_next_any_at (P := Tryz.prog) wr b (str l) k ty hit (by rw [str_size]; exact hk)
  rw [dec_at] at this
  exact this
theorem iter_end (l : List UInt8) (wr : World) (b k : Nat) (hit : wr.heap[b]? = some (.stringIter (str l) k)) (hk : ¬ k < l.length) (ty : TypeId) :
    (Instr.next (.pointer (some ⟨b, 0, none⟩)) true ty).run Tryz.prog wr = .ok (.tuple #[.bool false]) wr :=
  Lib.run_next_end_at (P := Tryz.prog) wr b (str l) k ty hit (by rw [str_size]; exact hk)
set_option maxHeartbeats 1000000 in
set_option maxRecDepth 100000 in
theorem IsText_any (l : List UInt8) (w : World) :
    Calls Tryz.prog 41 #[.string (str l)] w fun e w' => e = .returned (.bool (Utf.isText l)) ∧ Below w.heap.size w w' := by
  have hsz := str_size l
  go_enter Tryz.func41, Tryz.ntmps41
  go_wp2
  go_loopw [] (fun wr => ∃ k : Nat, k ≤ l.length ∧ wr.heap[w.heap.size]? = some (.stringIter (str l) k) ∧ Hid (Utf.isText l = Utf.isText (l.drop k)) ∧ Below w.heap.size w wr) (fun wr => l.length - wr.iterPos w.heap.size)
  case atStart => exact ⟨0, Nat.zero_le _, World.iter_heap w (str l) 0, rfl, (Below.refl _ w).alloc (Nat.le_refl _) _⟩
  case round =>
    obtain ⟨k, hk, hit, HE, hbw⟩ := hrel
    by_cases hlt : k < l.length
    · have hne := drop_ne hlt
      have hst := Utf.dec_step (l.drop k) hne
      have hpl := Utf.part_len (l.drop k) hne
      rw [List.length_drop] at hpl
      have hnx := next_any l wr w.heap.size k hit hlt
      have hit2 := Lib.iterAt_heap wr w.heap.size (str l) k (k + (Utf.dec (l.drop k)).2) hit
      have hbw2 := Lib.below_iterAt hbw (k := w.heap.size) (Nat.le_refl _) (str l) (k + (Utf.dec (l.drop k)).2)
      have hext : (str l).extract k l.length = str (l.drop k) := str_from l k
      by_cases hw : (Utf.part (l.drop k)).2 = true
      · have HS : Hid ((Utf.dec (l.drop k)).2 = (Utf.part (l.drop k)).1) := Utf.dec_whole _ hne hw
        have HN : Hid (Utf.isText l = Utf.isText (l.drop (k + (Utf.dec (l.drop k)).2))) := by
          show _ = _
          rw [HE.out, Utf.isText_go _ hne, hw, Bool.true_and, List.drop_drop, HS.out]
        by_cases hc : (Utf.dec (l.drop k)).1 = 65533
        · have hq : (((Utf.dec (l.drop k)).1 : Int) == 65533) = true := by rw [hc]; rfl
          have hm : decide ((l.drop k).take 3 = [239, 191, 189]) = true := decide_eq_true ((Utf.bad_iff _ hne hc).1 hw)
          have hc2 : Hid ((Utf.dec (l.drop k)).1 = 65533) := hc
          clear hc hw
          go_wp2_with (go_at_call 62; refine (HasMark_any _ _).mono ?_; rintro e w1 ⟨rfl, hw1⟩; rw [hw1]; clear hw1)
          go_roundw
          case rel => exact ⟨k + (Utf.dec (l.drop k)).2, by omega, hit2, HN, hbw2⟩
          case measure => simp only [World.iterPos, hit2, hit]; omega
        · have hq : (((Utf.dec (l.drop k)).1 : Int) == 65533) = false := by rw [beq_eq_false_iff_ne]; omega
          have hc2 : Hid (¬ (Utf.dec (l.drop k)).1 = 65533) := hc
          clear hc hw
          go_wp2
          go_roundw
          case rel => exact ⟨k + (Utf.dec (l.drop k)).2, by omega, hit2, HN, hbw2⟩
          case measure => simp only [World.iterPos, hit2, hit]; omega
      · have hw' : (Utf.part (l.drop k)).2 = false := by simpa using hw
        have hd := Utf.dec_bad _ hne hw'
        have hq : (((Utf.dec (l.drop k)).1 : Int) == 65533) = true := by rw [hd]; rfl
        have hm : decide ((l.drop k).take 3 = [239, 191, 189]) = false := by
          apply decide_eq_false
          intro e
          exact hw ((Utf.bad_iff _ hne (by rw [hd])).2 e)
        have HN : Hid (Utf.isText l = false) := by
          show _ = _
          rw [HE.out, Utf.isText_go _ hne, hw', Bool.false_and]
        clear hd hw hw'
        go_wp2_with (go_at_call 62; refine (HasMark_any _ _).mono ?_; rintro e w1 ⟨rfl, hw1⟩; rw [hw1]; clear hw1)
        go_ret
        exact ⟨ret_bool HN.out.symm, hbw2⟩
    · have hnx := iter_end l wr w.heap.size k hit hlt
      have HN : Hid (Utf.isText l = true) := by
        show _ = _
        rw [HE.out, List.drop_of_length_le (by omega), Utf.isText_nil]
      go_wp2
      go_ret
      exact ⟨ret_bool HN.out.symm, hbw⟩
end Go.Proofs.YtmmpbjpeiclacaaGreatDoor
