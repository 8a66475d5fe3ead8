/- The contract of the reference's IsText alone (a seat without its Put). -/
import Derived.Test.YtdllcnifkiebjaaDoorUNext
import Derived.Test.YtdllcnifkiebjaaDoorURepair
namespace Go.Proofs.YtdllcnifkiebjaaDoor
open Go.RowKit
def lenOf : Value → Nat
  | .string s => s.size
  | _ => 0
set_option maxHeartbeats 1000000 in
set_option maxRecDepth 100000 in
theorem RIsText_any (l : List UInt8) (w : World) (hz : l.length ≤ 1000000000) :
    Calls Tryd.prog 21 #[.string (str l)] w fun e w' => e = .returned (.bool (Utf.isText l)) ∧ ∃ n, w' = w.drewN n := by
  go_enter Tryd.func21, Tryd.ntmps21
  go_wp2
  go_loopw [0] (fun x wr => ∃ k : Nat, k ≤ l.length ∧ x = .string (str (l.drop k)) ∧ Hid (Utf.isText l = Utf.isText (l.drop k)) ∧ Hid (∃ n, wr = w.drewN n)) (fun x _ => lenOf x)
  case atStart => exact ⟨0, Nat.zero_le _, rfl, rfl, 0, rfl⟩
  case round =>
    obtain ⟨k, hk, rfl, HE, HW⟩ := hrel
    have hsz := str_size (l.drop k)
    have hld := List.length_drop (i := k) (l := l)
    by_cases hlt : k < l.length
    · have hne := drop_ne hlt
      have hp := Utf.part_pos (l.drop k)
      have hpl := Utf.part_len (l.drop k) hne
      have h0 : 0 < l.length - k := by omega
      have hext : (str (l.drop k)).extract (Utf.part (l.drop k)).1 (l.length - k) = str ((l.drop k).drop (Utf.part (l.drop k)).1) := by
        have := str_from (l.drop k) (Utf.part (l.drop k)).1
        rw [hld] at this
        exact this
      rw [hld] at hpl
      cases hw : (Utf.part (l.drop k)).2
      · have hy := Utf.why_bad hw
        have hq : (Utf.why (l.drop k) != 0) = true := by rw [hy]; rfl
        have HN : Hid (Utf.isText l = false) := by
          show _ = _
          rw [HE.out, Utf.isText_go _ hne, hw, Bool.false_and]
        clear hy
        go_wp2_with (go_at_call 41; refine (RNext_any _ (l.drop k) (str_data _) hne _ (by rw [str_size, List.length_drop]; omega)).mono ?_; rintro e w1 ⟨rfl, n1, rfl⟩)
        go_ret
        exact ⟨ret_bool HN.out.symm, quiet_more HW.out n1⟩
      · have hy := Utf.why_ok hw
        have hq : (Utf.why (l.drop k) != 0) = false := by rw [hy]; rfl
        have HN : Hid (Utf.isText l = Utf.isText (l.drop (k + (Utf.part (l.drop k)).1))) := by
          show _ = _
          rw [HE.out, Utf.isText_go _ hne, hw, Bool.true_and, List.drop_drop]
        clear hy
        go_wp2_with (go_at_call 41; refine (RNext_any _ (l.drop k) (str_data _) hne _ (by rw [str_size, List.length_drop]; omega)).mono ?_; rintro e w1 ⟨rfl, n1, rfl⟩)
        go_roundw
        case rel => exact ⟨k + (Utf.part (l.drop k)).1, by omega, rfl, HN, quiet_more HW.out n1⟩
        case measure => simp only [lenOf, str_size, List.length_drop]; omega
    · have h0 : ¬ 0 < l.length - k := by omega
      have HN : Hid (Utf.isText l = true) := by
        show _ = _
        rw [HE.out, List.drop_of_length_le (by omega), Utf.isText_nil]
      go_wp2
      go_ret
      exact ⟨ret_bool HN.out.symm, HW.out⟩
end Go.Proofs.YtdllcnifkiebjaaDoor
