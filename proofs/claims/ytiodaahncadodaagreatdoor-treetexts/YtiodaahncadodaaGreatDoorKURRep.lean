/- The contract of the reference's Repair alone, beside URIs. -/
import Derived.Test.YtiodaahncadodaaGreatDoorKTextR
import Derived.Test.YtiodaahncadodaaGreatDoorKRefA
namespace Go.Proofs.YtiodaahncadodaaGreatDoor
open Go.RowKit
theorem OwnsBytes.drewN {W : World} {B : Nat} {v : Value} {l : List UInt8} (n : Nat) (h : OwnsBytes W B v l) : OwnsBytes (W.drewN n) B v l := by
  refine ⟨h.1, ?_⟩
  rcases h.2 with h2 | ⟨g, cap, cur, h1, h2, h3, h4⟩
  · exact .inl h2
  · exact .inr ⟨g, cap, cur, h1, h2, by simpa using h3, h4⟩
set_option maxHeartbeats 2000000 in
set_option maxRecDepth 100000 in
theorem RRepair_any (l : List UInt8) (w : World) (hz : l.length ≤ 1000000000) :
    Calls Tryz.prog 72 #[.string (str l)] w fun e w' => e = .returned (.string (str (Utf.rep l))) ∧ Below w.heap.size w w' := by
  obtain ⟨i0, hi, hz0, hz1, hz2⟩ := info_parts infoByte
  go_enter Tryz.func72, Tryz.ntmps72
  go_wp2
  go_loopw [0, 3] (fun x v wr => ∃ (k : Nat) (acc : List UInt8), k ≤ l.length ∧ x = .string (str (l.drop k)) ∧ OwnsBytes wr w.heap.size v acc ∧ Hid (acc ++ Utf.rep (l.drop k) = Utf.rep l) ∧ acc.length ≤ 4 * k ∧ Below w.heap.size w wr) (fun x _ _ => lenOf x)
  case atStart => exact ⟨0, [], Nat.zero_le _, rfl, OwnsBytes.nil _ _, rfl, Nat.zero_le _, Below.refl _ _⟩
  case round =>
    obtain ⟨k, acc, hk, rfl, ho, HE, hal, hbw⟩ := hrel
    have hsz := str_size (l.drop k)
    have hld := List.length_drop (i := k) (l := l)
    by_cases hlt : k < l.length
    · have hne := drop_ne hlt
      have hp := Utf.part_pos (l.drop k)
      have hpl := Utf.part_len (l.drop k) hne
      have h0 : 0 < l.length - k := by omega
      have hext : (str (l.drop k)).extract (Utf.part (l.drop k)).1 (l.length - k) = str ((l.drop k).drop (Utf.part (l.drop k)).1) := by
        have := str_from (l.drop k) (Utf.part (l.drop k)).1
        rw [hld] at this
        exact this
      rw [hld] at hpl
      have he4 := Utf.enc_len ((Utf.dec (l.drop k)).1 : Int)
      have HN : Hid (acc ++ Lib.encodeRune (Utf.dec (l.drop k)).1 ++ Utf.rep (l.drop (k + (Utf.part (l.drop k)).1)) = Utf.rep l) := by
        show _ = _
        rw [← HE.out, Utf.rep_go _ hne, List.drop_drop, List.append_assoc]
      have hszw := hbw.size
      go_wp2_with (first
        | (go_at_call 105; refine (RNext_any _ (l.drop k) (str_data _) hne _ (by rw [str_size, List.length_drop]; omega)).mono ?_; rintro e w1 ⟨rfl, n1, rfl⟩)
        | (go_at_call 106; refine (one_any _ _).mono ?_; rintro e w2 ⟨v2, rfl, ho2, hb2⟩; obtain ⟨g2, cap2, rfl, hr2⟩ := owns_src ho2 he4.2; have ho3 := (ho.drewN n1).below hb2; have hsz2 := hb2.size)
        | (at_builtin; refine wpList_append_own _ rfl _ _ 78 rfl w.heap.size 5 i0 (.int .u8 0) 1 1 Tryz.underlying78 hi hz0 hz1 hz2 rfl (by decide) _ _ _ rfl ho3 ⟨g2, 0, none⟩ _ cap2 (cellsB (Lib.encodeRune (Utf.dec (l.drop k)).1)) rfl (by rw [cellsB_length, Nat.mul_one]) hr2 (one_cell _) (by unfold maxLen; omega) (by omega) (by simp at hsz2; omega) ?_; intro v3 w3 ho4 hg3 _))
      have hb3 : Below w.heap.size w w3 := (bel (below_drewN n1 hbw) hb2).grown hg3 (by simp at hsz2; omega) (fun k hk => (World.ownsRow.lt ho3 k hk).1)
      go_roundw
      case rel => exact ⟨k + (Utf.part (l.drop k)).1, acc ++ Lib.encodeRune (Utf.dec (l.drop k)).1, by omega, rfl, owns_more ho4, HN, by rw [List.length_append]; omega, hb3⟩
      case measure => simp only [lenOf, str_size, List.length_drop]; omega
    · have h0 : ¬ 0 < l.length - k := by omega
      have HN : Hid (acc = Utf.rep l) := by
        show _ = _
        have := HE.out
        rw [List.drop_of_length_le (by omega), Utf.rep_nil, List.append_nil] at this
        exact this
      have hcv := conv_owned ho
      go_wp2
      go_ret
      exact ⟨by rw [← HN.out]; rfl, hbw⟩
end Go.Proofs.YtiodaahncadodaaGreatDoor
