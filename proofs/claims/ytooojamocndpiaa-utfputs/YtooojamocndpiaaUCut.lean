/- The contracts of utf.Cut, and of the law's own 'long'. -/
import Derived.Test.YtooojamocndpiaaUPart
namespace Go.Proofs.Ytooojamocndpiaa
open Go.RowKit
set_option maxHeartbeats 400000 in
theorem long_any (s : ByteArray) (w : World) : Calls Try.prog 10 #[.string s] w fun e w' => e = .returned (.bool (longB s)) ∧ w' = w := by
  by_cases h : 3000 < s.size
  · rw [long_yes h]
    go_enter Try.func10, Try.ntmps10
    go_wp2
    go_ret
    exact ⟨ret_bool (by first | rfl | (simp <;> omega)), rfl⟩
  · rw [long_no h]
    go_enter Try.func10, Try.ntmps10
    go_wp2
    go_ret
    exact ⟨ret_bool (by first | rfl | (simp <;> omega)), rfl⟩
theorem drop_ne {l : List UInt8} {k : Nat} (h : k < l.length) : l.drop k ≠ [] := by
  intro e
  have := congrArg List.length e
  rw [List.length_drop, List.length_nil] at this
  omega
set_option maxHeartbeats 1000000 in
set_option maxRecDepth 100000 in
theorem Cut_any (l : List UInt8) (m : Int) (w : World) (hz : l.length ≤ 1000000000) (h0 : -9223372036854775808 ≤ m) (h1 : m ≤ 9223372036854775807) :
    Calls Try.prog 18 #[.string (str l), .int .i64 m] w fun e w' => e = .returned (.string (str (l.take (Utf.cut l m)))) ∧ ∃ n, w' = w.drewN n := by
  have hsz := str_size l
  go_enter Try.func18, Try.ntmps18
  go_wp2
  go_loopw [5] (fun i wr => ∃ k : Nat, k ≤ l.length ∧ i = .int .i64 k ∧ (k = 0 ∨ (k : Int) ≤ m) ∧ Hid (k + Utf.cut (l.drop k) (m - k) = Utf.cut l m) ∧ Hid (∃ n, wr = w.drewN n)) (fun i _ => l.length - (intOf i).toNat)
  case atStart => exact ⟨0, Nat.zero_le _, rfl, .inl rfl, by show _ = _; simp, 0, rfl⟩
  case round =>
    obtain ⟨k, hk, rfl, hkm, HE, HW⟩ := hrel
    by_cases hlt : k < l.length
    · have hne := drop_ne hlt
      have hp := Utf.part_pos (l.drop k)
      have hpl := Utf.part_len (l.drop k) hne
      rw [List.length_drop] at hpl
      have hext : (str l).extract k l.length = str (l.drop k) := str_from l k
      have hbd : -9223372036854775808 ≤ m - (k : Int) ∧ m - (k : Int) ≤ 9223372036854775807 := by omega
      by_cases hgt : ((Utf.part (l.drop k)).1 : Int) > m - k
      · have HN : Hid (Utf.cut l m = k) := by
          show _ = _
          rw [← HE.out, Utf.cut_stop _ _ hgt]; rfl
        go_wp2_with (go_at_call 25; refine (part_any _ (l.drop k) (str_data _) hne _ (by rw [str_size, List.length_drop]; omega)).mono ?_; rintro e w1 ⟨rfl, n1, rfl⟩)
        go_ret
        exact ⟨by rw [HN.out]; exact ret_text (by rw [str_to, str_data]), quiet_more HW.out n1⟩
      · have HN : Hid ((k + (Utf.part (l.drop k)).1) + Utf.cut (l.drop (k + (Utf.part (l.drop k)).1)) (m - ((k + (Utf.part (l.drop k)).1 : Nat) : Int)) = Utf.cut l m) := by
          show _ = _
          rw [← HE.out, Utf.cut_go _ _ hne hgt, List.drop_drop, Nat.add_assoc]
          congr 3
          omega
        go_wp2_with (go_at_call 25; refine (part_any _ (l.drop k) (str_data _) hne _ (by rw [str_size, List.length_drop]; omega)).mono ?_; rintro e w1 ⟨rfl, n1, rfl⟩)
        go_roundw
        case rel => exact ⟨k + (Utf.part (l.drop k)).1, by omega, by go_num, .inr (by omega), HN, quiet_more HW.out n1⟩
        case measure => simp [intOf]; omega
    · have HN : Hid (Utf.cut l m = k) := by
        show _ = _
        rw [← HE.out, List.drop_of_length_le (by omega), Utf.cut_nil]; rfl
      go_wp2
      go_ret
      exact ⟨by rw [HN.out]; exact ret_text (by rw [str_to, str_data]), HW.out⟩
end Go.Proofs.Ytooojamocndpiaa
