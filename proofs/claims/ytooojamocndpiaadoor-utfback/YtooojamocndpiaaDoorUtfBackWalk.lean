/- The walk of the law UtfBack, out of the contracts. -/
import Derived.Test.YtooojamocndpiaaDoorUNextP
import Derived.Test.YtooojamocndpiaaDoorURPut
namespace Go.Proofs.YtooojamocndpiaaDoor.utfBack
open Go.RowKit
theorem str_cat (a b : List UInt8) : str a ++ str b = str (a ++ b) := by
  apply str_eq
  rw [ByteArray.data_append]
  simp [str]
set_option maxHeartbeats 2000000 in
set_option maxRecDepth 100000 in
theorem walk (a0 : Int) (a1 : ByteArray) (w : World) (hc : (Lit.int .i32 a0).wf = true) (h0 : a1.size ≤ 140737488351232) (hT : Lib.Utf8Tabs 0 1 w) :
    Calls Tryd.prog 4 #[.int .i32 a0, .string a1] w fun e w' => e = .returned (.bool true) ∧ Below w.heap.size w w' := by
  have HT : Hid (Tabs w) := hT
  clear hT
  have hin : inR a0 := by
    simp only [Lit.wf, Bool.and_eq_true, decide_eq_true_eq] at hc
    exact hc
  clear hc
  obtain ⟨l, rfl⟩ : ∃ l, a1 = str l := ⟨_, (str_self a1).symm⟩
  have hsz := str_size l
  rw [hsz] at h0
  have hB : Below w.heap.size w w := Below.refl _ _
  have he4 := Utf.enc_len a0
  have hes := str_size (Lib.encodeRune a0)
  have hcat := str_cat (Lib.encodeRune a0) l
  have hne := Utf.enc_ne a0 l
  obtain ⟨p1, p2⟩ := Utf.put_next a0 l
  have hw : (Utf.part (Lib.encodeRune a0 ++ l)).2 = true := by rw [p1]
  have hp : (Utf.part (Lib.encodeRune a0 ++ l)).1 = (Lib.encodeRune a0).length := by rw [p1]
  have hy := Utf.why_ok hw
  clear p1 hw
  have HIN : Hid (inR a0) := hin
  clear hin
  cases hr : Utf.right a0
  · have hm : Utf.mend a0 = 65533 := by unfold Utf.mend; rw [hr]; rfl
    rw [hm] at p2
    go_enter Tryd.func4, Tryd.ntmps4
    go_wp2_with (first
      | (go_at_call 8; refine (Put_one a0 _ HIN.out).mono ?_; rintro e w1 ⟨v1, rfl, ho1, hb1⟩; replace hB := bel hB hb1; clear hb1; have hcv := conv_owned ho1; obtain ⟨g1, cap1, rfl, _⟩ := owns_src ho1 he4.2)
      | (go_at_call 5; refine (Next_any (Lib.encodeRune a0 ++ l) hne _ (by rw [List.length_append]; omega) (HT.out.below hB)).mono ?_; rintro e w2 ⟨rfl, hb2⟩; replace hB := bel hB hb2; clear hb2)
      | (go_at_call 9; refine (Right_n _ _).mono ?_; rintro e w3 ⟨rfl, hw⟩; rw [hw]; clear hw)
      | (go_at_call 7; refine (alive_any _).mono ?_; rintro e w4 ⟨rfl, hb4⟩; replace hB := bel hB hb4; clear hb4))
    go_ret
    exact ⟨rfl, hB⟩
  · have hm : Utf.mend a0 = a0 := Utf.mend_right hr
    rw [hm] at p2
    go_enter Tryd.func4, Tryd.ntmps4
    go_wp2_with (first
      | (go_at_call 8; refine (Put_one a0 _ HIN.out).mono ?_; rintro e w1 ⟨v1, rfl, ho1, hb1⟩; replace hB := bel hB hb1; clear hb1; have hcv := conv_owned ho1; obtain ⟨g1, cap1, rfl, _⟩ := owns_src ho1 he4.2)
      | (go_at_call 5; refine (Next_any (Lib.encodeRune a0 ++ l) hne _ (by rw [List.length_append]; omega) (HT.out.below hB)).mono ?_; rintro e w2 ⟨rfl, hb2⟩; replace hB := bel hB hb2; clear hb2)
      | (go_at_call 9; refine (Right_n _ _).mono ?_; rintro e w3 ⟨rfl, hw⟩; rw [hw]; clear hw)
      | (go_at_call 7; refine (alive_any _).mono ?_; rintro e w4 ⟨rfl, hb4⟩; replace hB := bel hB hb4; clear hb4))
    go_ret
    exact ⟨rfl, hB⟩
end Go.Proofs.YtooojamocndpiaaDoor.utfBack
