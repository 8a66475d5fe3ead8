/- Texts laid as one. -/
import Derived.Test.YtiodaahncadodaaGreatDoorKRfR
import Derived.Deep.RegionWith
import Derived.Test.YtiodaahncadodaaGreatDoorKRfLT
import Derived.Test.YtiodaahncadodaaGreatDoorKRefA
/- The contract of the reference's Next: at a text that begins with &, at any text. -/
set_option linter.unusedVariables false
set_option linter.unusedSimpArgs false
namespace Rf
end Rf
namespace Go.Proofs.YtiodaahncadodaaGreatDoor
open Go.RowKit
end Go.Proofs.YtiodaahncadodaaGreatDoor
/- Contracts of the reference's Decode and Encode. -/
namespace Go.Proofs.YtiodaahncadodaaGreatDoor
open Go.RowKit
theorem OwnsBytes.mono {w : World} {B B' : Nat} {v : Value} {l : List UInt8} (h : OwnsBytes w B v l) (hb : B' ≤ B) : OwnsBytes w B' v l := by
  refine ⟨h.1, ?_⟩
  rcases h.2 with h | ⟨g, cap, cur, h1, h2, h3⟩
  · exact .inl h
  · exact .inr ⟨g, cap, cur, h1, Nat.le_trans hb h2, h3⟩
end Go.Proofs.YtiodaahncadodaaGreatDoor
/- The contract of the reference's Encode. -/
namespace Go.Proofs.YtiodaahncadodaaGreatDoor
open Go.RowKit
theorem str_cat11 (a b : List UInt8) : str a ++ str b = str (a ++ b) := by
  apply str_eq
  rw [ByteArray.data_append]
  simp [str]
theorem str_one (l : List UInt8) (k : Nat) (h : k < l.length) : (str l).extract k (k + 1) = str [l[k]] := by
  rw [str_mid, List.drop_eq_getElem_cons h]
  rfl
set_option maxHeartbeats 4000000 in
set_option maxRecDepth 100000 in
theorem REncode_any (l : List UInt8) (a : Bool) (w : World) (hz : l.length ≤ 100000000) :
    Calls Tryz.prog 104 #[.string (str l), .bool a] w fun e w' => e = .returned (.string (str (Rf.enc a l))) ∧ w' = w := by
  have hsz := str_size l
  go_enter Tryz.func104, Tryz.ntmps104
  go_wp2
  go_loop [5, 6] (fun s i => ∃ (k : Nat) (acc : List UInt8), k ≤ l.length ∧ i = .int .i64 k ∧ s = .string (str acc) ∧ acc.length ≤ 6 * k ∧ Hid (acc ++ Rf.enc a (l.drop k) = Rf.enc a l)) (fun _ i => l.length - (intOf i).toNat)
  case atStart => exact ⟨0, [], Nat.zero_le _, rfl, rfl, by simp, rfl⟩
  case round =>
    obtain ⟨k, acc, hk, rfl, rfl, hacc, HE⟩ := hrel
    have hsa := str_size acc
    by_cases hlt : k < l.length
    · have hks : k < (str l).size := by omega
      have hki : (k : Int) < (l.length : Int) := by omega
      have hdr := List.drop_eq_getElem_cons hlt
      have he : (str l)[k] = l[k] := rfl
      have hx1 := str_one l k hlt
      have hx2 : (str l).extract k l.length = str (l.drop k) := str_from l k
      have HF : Hid (acc ++ (Rf.one a (l.drop k)).1 ++ Rf.enc a (l.drop (k + (Rf.one a (l.drop k)).2)) = Rf.enc a l) := by
        show _ = _
        rw [← HE.out, Rf.enc_go a (l.drop k) (by rw [hdr]; exact List.cons_ne_nil _ _), List.append_assoc, List.drop_drop]
      have hol := Rf.one_len a (l.drop k) (by rw [hdr]; exact List.cons_ne_nil _ _)
      rw [List.length_drop] at hol
      rw [hdr] at hx2 HF hol
      have hst := starts_any (l[k] :: l.drop (k + 1)) [194, 160]
      clear HE hdr
      generalize l.drop (k + 1) = t at *
      generalize l[k] = c at *
      by_cases hc : c = 38
      · subst hc
        have hst2 : ([194, 160].isPrefixOf (38 :: t)) = false := rfl
        rw [hst2] at hst
        clear hol hst2
        have hcat : str acc ++ (⟨#[38, 97, 109, 112, 59]⟩ : ByteArray) = str (acc ++ [38, 97, 109, 112, 59]) := str_cat11 acc [38, 97, 109, 112, 59]
        go_wp2_with (go_at_call 110; refine (hst _).mono ?_; rintro e w1 ⟨rfl, hw⟩; rw [hw]; clear hw)
        go_round
        case rel => exact ⟨k + 1, acc ++ [38, 97, 109, 112, 59], by omega, by go_num, by first | rfl | (rw [← hcat]; rfl), by simp; omega, HF.out⟩
        case measure => simp [intOf]; omega
      have H38 : Hid (¬ (c = 38)) := hc
      clear hc
      by_cases hc : c = 60 ∧ a = false
      · obtain ⟨rfl, rfl⟩ := hc
        have hst2 : ([194, 160].isPrefixOf (60 :: t)) = false := rfl
        rw [hst2] at hst
        clear hol hst2
        have hcat : str acc ++ (⟨#[38, 108, 116, 59]⟩ : ByteArray) = str (acc ++ [38, 108, 116, 59]) := str_cat11 acc [38, 108, 116, 59]
        go_wp2_with (go_at_call 110; refine (hst _).mono ?_; rintro e w1 ⟨rfl, hw⟩; rw [hw]; clear hw)
        go_round
        case rel => exact ⟨k + 1, acc ++ [38, 108, 116, 59], by omega, by go_num, by first | rfl | (rw [← hcat]; rfl), by simp; omega, HF.out⟩
        case measure => simp [intOf]; omega
      have H60f : Hid (¬ (c = 60 ∧ a = false)) := hc
      clear hc
      by_cases hc : c = 60 ∧ a = true
      · obtain ⟨rfl, rfl⟩ := hc
        have hst2 : ([194, 160].isPrefixOf (60 :: t)) = false := rfl
        rw [hst2] at hst
        clear hol hst2
        have hcat : str acc ++ str [60] = str (acc ++ [60]) := str_cat11 acc [60]
        have hs1 : (str [60]).size = 1 := str_size [60]
        go_wp2_with (go_at_call 110; refine (hst _).mono ?_; rintro e w1 ⟨rfl, hw⟩; rw [hw]; clear hw)
        go_round
        case rel => exact ⟨k + 1, acc ++ [60], by omega, by go_num, by first | rfl | (rw [← hcat]; rfl), by simp; omega, HF.out⟩
        case measure => simp [intOf]; omega
      have H60t : Hid (¬ (c = 60 ∧ a = true)) := hc
      clear hc
      by_cases hc : c = 62 ∧ a = false
      · obtain ⟨rfl, rfl⟩ := hc
        have hst2 : ([194, 160].isPrefixOf (62 :: t)) = false := rfl
        rw [hst2] at hst
        clear hol hst2
        have hcat : str acc ++ (⟨#[38, 103, 116, 59]⟩ : ByteArray) = str (acc ++ [38, 103, 116, 59]) := str_cat11 acc [38, 103, 116, 59]
        go_wp2_with (go_at_call 110; refine (hst _).mono ?_; rintro e w1 ⟨rfl, hw⟩; rw [hw]; clear hw)
        go_round
        case rel => exact ⟨k + 1, acc ++ [38, 103, 116, 59], by omega, by go_num, by first | rfl | (rw [← hcat]; rfl), by simp; omega, HF.out⟩
        case measure => simp [intOf]; omega
      have H62f : Hid (¬ (c = 62 ∧ a = false)) := hc
      clear hc
      by_cases hc : c = 62 ∧ a = true
      · obtain ⟨rfl, rfl⟩ := hc
        have hst2 : ([194, 160].isPrefixOf (62 :: t)) = false := rfl
        rw [hst2] at hst
        clear hol hst2
        have hcat : str acc ++ str [62] = str (acc ++ [62]) := str_cat11 acc [62]
        have hs1 : (str [62]).size = 1 := str_size [62]
        go_wp2_with (go_at_call 110; refine (hst _).mono ?_; rintro e w1 ⟨rfl, hw⟩; rw [hw]; clear hw)
        go_round
        case rel => exact ⟨k + 1, acc ++ [62], by omega, by go_num, by first | rfl | (rw [← hcat]; rfl), by simp; omega, HF.out⟩
        case measure => simp [intOf]; omega
      have H62t : Hid (¬ (c = 62 ∧ a = true)) := hc
      clear hc
      by_cases hc : c = 34 ∧ a = true
      · obtain ⟨rfl, rfl⟩ := hc
        have hst2 : ([194, 160].isPrefixOf (34 :: t)) = false := rfl
        rw [hst2] at hst
        clear hol hst2
        have hcat : str acc ++ (⟨#[38, 113, 117, 111, 116, 59]⟩ : ByteArray) = str (acc ++ [38, 113, 117, 111, 116, 59]) := str_cat11 acc [38, 113, 117, 111, 116, 59]
        go_wp2_with (go_at_call 110; refine (hst _).mono ?_; rintro e w1 ⟨rfl, hw⟩; rw [hw]; clear hw)
        go_round
        case rel => exact ⟨k + 1, acc ++ [38, 113, 117, 111, 116, 59], by omega, by go_num, by first | rfl | (rw [← hcat]; rfl), by simp; omega, HF.out⟩
        case measure => simp [intOf]; omega
      have H34t : Hid (¬ (c = 34 ∧ a = true)) := hc
      clear hc
      by_cases hc : c = 34 ∧ a = false
      · obtain ⟨rfl, rfl⟩ := hc
        have hst2 : ([194, 160].isPrefixOf (34 :: t)) = false := rfl
        rw [hst2] at hst
        clear hol hst2
        have hcat : str acc ++ str [34] = str (acc ++ [34]) := str_cat11 acc [34]
        have hs1 : (str [34]).size = 1 := str_size [34]
        go_wp2_with (go_at_call 110; refine (hst _).mono ?_; rintro e w1 ⟨rfl, hw⟩; rw [hw]; clear hw)
        go_round
        case rel => exact ⟨k + 1, acc ++ [34], by omega, by go_num, by first | rfl | (rw [← hcat]; rfl), by simp; omega, HF.out⟩
        case measure => simp [intOf]; omega
      have H34f : Hid (¬ (c = 34 ∧ a = false)) := hc
      clear hc
      by_cases hc : c = 13
      · subst hc
        have hst2 : ([194, 160].isPrefixOf (13 :: t)) = false := rfl
        rw [hst2] at hst
        clear hol hst2
        have hcat : str acc ++ (⟨#[38, 35, 49, 51, 59]⟩ : ByteArray) = str (acc ++ [38, 35, 49, 51, 59]) := str_cat11 acc [38, 35, 49, 51, 59]
        go_wp2_with (go_at_call 110; refine (hst _).mono ?_; rintro e w1 ⟨rfl, hw⟩; rw [hw]; clear hw)
        go_round
        case rel => exact ⟨k + 1, acc ++ [38, 35, 49, 51, 59], by omega, by go_num, by first | rfl | (rw [← hcat]; rfl), by simp; omega, HF.out⟩
        case measure => simp [intOf]; omega
      have H13 : Hid (¬ (c = 13)) := hc
      clear hc
      have n38 : c ≠ 38 := H38.out
      have n13 : c ≠ 13 := H13.out
      have n60 : c ≠ 60 := by intro e; cases a; exact H60f.out ⟨e, rfl⟩; exact H60t.out ⟨e, rfl⟩
      have n62 : c ≠ 62 := by intro e; cases a; exact H62f.out ⟨e, rfl⟩; exact H62t.out ⟨e, rfl⟩
      have n34 : c ≠ 34 := by intro e; cases a; exact H34f.out ⟨e, rfl⟩; exact H34t.out ⟨e, rfl⟩
      clear H38 H13 H60f H60t H62f H62t H34f H34t
      have HO : Hid (Rf.one a (c :: t) = if [194,160].isPrefixOf (c :: t) = true then ([38,110,98,115,112,59], 2) else ([c], 1)) := by
        show _ = _
        unfold Rf.one
        simp only [List.take_succ_cons, List.take_zero, List.cons.injEq, and_true, n38, n60, n62, n34, n13, false_and, if_false]
      have q38 : ¬ (c.toNat : Int) = 38 := byte_ne (k := 38) (by omega) n38
      have r38 : ((c.toNat : Int) == 38) = false := beq_eq_false_iff_ne.2 q38
      have q60 : ¬ (c.toNat : Int) = 60 := byte_ne (k := 60) (by omega) n60
      have r60 : ((c.toNat : Int) == 60) = false := beq_eq_false_iff_ne.2 q60
      have q62 : ¬ (c.toNat : Int) = 62 := byte_ne (k := 62) (by omega) n62
      have r62 : ((c.toNat : Int) == 62) = false := beq_eq_false_iff_ne.2 q62
      have q34 : ¬ (c.toNat : Int) = 34 := byte_ne (k := 34) (by omega) n34
      have r34 : ((c.toNat : Int) == 34) = false := beq_eq_false_iff_ne.2 q34
      have q13 : ¬ (c.toNat : Int) = 13 := byte_ne (k := 13) (by omega) n13
      have r13 : ((c.toNat : Int) == 13) = false := beq_eq_false_iff_ne.2 q13
      clear n38 n60 n62 n34 n13
      cases hp : [194,160].isPrefixOf (c :: t)
      · rw [hp] at hst
        have HO' : Hid (Rf.one a (c :: t) = ([c], 1)) := by show _ = _; rw [HO.out, hp]; rfl
        have HF' : Hid (acc ++ [c] ++ Rf.enc a (l.drop (k + 1)) = Rf.enc a l) := by
          have := HF.out
          rw [HO'.out] at this
          exact this
        clear hp HO HO' HF hol
        have hcat : str acc ++ str [c] = str (acc ++ [c]) := str_cat11 acc [c]
        have hs1 : (str [c]).size = 1 := str_size [c]
        go_wp2_with (go_at_call 110; refine (hst _).mono ?_; rintro e w1 ⟨rfl, hw⟩; rw [hw]; clear hw)
        go_round
        case rel => exact ⟨k + 1, acc ++ [c], by omega, by go_num, by first | rfl | (rw [← hcat]), by simp; omega, HF'.out⟩
        case measure => simp [intOf]; omega
      · rw [hp] at hst
        have HO' : Hid (Rf.one a (c :: t) = ([38,110,98,115,112,59], 2)) := by show _ = _; rw [HO.out, hp]; rfl
        have HF' : Hid (acc ++ [38,110,98,115,112,59] ++ Rf.enc a (l.drop (k + 2)) = Rf.enc a l) := by
          have := HF.out
          rw [HO'.out] at this
          exact this
        have hk2 : k + 2 ≤ l.length := by
          rw [HO'.out] at hol
          simp at hol
          omega
        clear hp HO HO' HF hol
        have hcat : str acc ++ (⟨#[38, 110, 98, 115, 112, 59]⟩ : ByteArray) = str (acc ++ [38, 110, 98, 115, 112, 59]) := str_cat11 acc [38, 110, 98, 115, 112, 59]
        go_wp2_with (go_at_call 110; refine (hst _).mono ?_; rintro e w1 ⟨rfl, hw⟩; rw [hw]; clear hw)
        go_round
        case rel => exact ⟨k + 2, acc ++ [38, 110, 98, 115, 112, 59], by omega, by go_num, by first | rfl | (rw [← hcat]; rfl), by simp; omega, HF'.out⟩
        case measure => simp [intOf]; omega
    · have hki : ¬ (k : Int) < (l.length : Int) := by omega
      have HN : Hid (acc = Rf.enc a l) := by
        show _ = _
        rw [← HE.out, List.drop_eq_nil_of_le (by omega), Rf.enc_nil, List.append_nil]
      go_wp2
      go_ret
      exact ⟨by rw [HN.out]; rfl, rfl⟩
end Go.Proofs.YtiodaahncadodaaGreatDoor
