/- The contracts of utf.Next, and of the reference's Next at no bytes. -/
import Derived.Test.YtooojamocndpiaaDoorUNext
import Derived.Test.YtooojamocndpiaaDoorUAlive
namespace Go.Proofs.YtooojamocndpiaaDoor
open Go.RowKit
def Tabs (w : World) : Prop := Lib.Utf8Tabs 0 1 w
theorem Tabs.below {w w' : World} (h : Tabs w) (hb : Below w.heap.size w w') : Tabs w' := by
  refine ⟨fun c hc => ?_, fun i hi => ⟨?_, ?_⟩⟩
  · exact (hb.cell (cell_lt (h.1 c hc))).trans (h.1 c hc)
  · exact (hb.cell (cell_lt (h.2 i hi).1)).trans (h.2 i hi).1
  · exact (hb.cell (cell_lt (h.2 i hi).2)).trans (h.2 i hi).2
theorem decode_dec (l : List UInt8) (h : l ≠ []) : Lib.decodeGo (str l) = Utf.dec l := by
  have := Utf.len_pos h
  unfold Lib.decodeGo
  rw [str_size, if_neg (by omega), dec_at, List.drop_zero]
set_option maxHeartbeats 1000000 in
set_option maxRecDepth 100000 in
theorem Next_any (l : List UInt8) (h : l ≠ []) (w : World) (hz : l.length ≤ 9223372036854775800) (hT : Tabs w) :
    Calls Tryd.prog 5 #[.string (str l)] w fun e w' => e = .returned (.tuple #[.int .i32 ((Utf.dec l).1 : Nat), .int .i64 ((Utf.part l).1 : Nat), .int .i64 (Utf.why l)]) ∧ Below w.heap.size w w' := by
  have hsz := str_size l
  have hemp : (str l).toList.isEmpty = false := by
    rw [str_list]
    cases l with
    | nil => exact absurd rfl h
    | cons _ _ => rfl
  have hdec := decode_dec l h
  have HT : Hid (Tabs w) := hT
  clear hT
  cases hw : (Utf.part l).2
  · have HY : Hid (Utf.why l = 9) := Utf.why_bad hw
    have HD : Hid (Utf.dec l = (65533, 1)) := Utf.dec_bad l h hw
    go_enter Tryd.func5, Tryd.ntmps5
    go_wp2_with (go_at_call 10; refine (part_any _ l (str_data _) h _ (by omega)).mono ?_; rintro e w1 ⟨rfl, n1, rfl⟩)
    go_ret3
    exact ⟨by rw [HY.out, HD.out]; rfl, below_drewN n1 (Below.refl _ w)⟩
  · have HY : Hid (Utf.why l = 0) := Utf.why_ok hw
    have hbd : ∀ n, Below w.heap.size w (w.drewN n) := fun n => below_drewN n (Below.refl _ w)
    go_enter Tryd.func5, Tryd.ntmps5
    go_wp2_with (first
      | (go_at_call 10; refine (part_any _ l (str_data _) h _ (by omega)).mono ?_; rintro e w1 ⟨rfl, n1, rfl⟩)
      | (go_at_call 11; refine (Tryd.utf8_DecodeRuneInString _ _ (HT.out.below (hbd n1))).mono ?_; rintro e w2 ⟨rfl, hb2⟩))
    go_ret3
    exact ⟨by rw [HY.out]; rfl, bel (hbd n1) hb2⟩
set_option maxHeartbeats 400000 in
theorem Next_nil (w : World) :
    Calls Tryd.prog 5 #[.string (str [])] w fun e w' => e = .returned (.tuple #[.int .i32 0, .int .i64 0, .int .i64 9]) ∧ w' = w := by
  have hemp : (str []).toList.isEmpty = true := by rw [str_list]; rfl
  go_enter Tryd.func5, Tryd.ntmps5
  go_wp2
  go_ret3
  exact ⟨rfl, rfl⟩
set_option maxHeartbeats 400000 in
theorem RNext_nil (w : World) :
    Calls Tryd.prog 6 #[.string (str [])] w fun e w' => e = .returned (.tuple #[.int .i32 0, .int .i64 0, .int .i64 9]) ∧ w' = w := by
  have hemp : (str []).toList.isEmpty = true := by rw [str_list]; rfl
  go_enter Tryd.func6, Tryd.ntmps6
  go_wp2
  go_ret3
  exact ⟨rfl, rfl⟩
end Go.Proofs.YtooojamocndpiaaDoor
