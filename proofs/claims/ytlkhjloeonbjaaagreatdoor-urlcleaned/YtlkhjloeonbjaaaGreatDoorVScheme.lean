/- The contracts of package url's isSchemeByte, isScheme, readScheme. -/
import Derived.Test.YtlkhjloeonbjaaaGreatDoorVRest
import Derived.Test.YtlkhjloeonbjaaaGreatDoorQLower
namespace Go.Proofs.YtlkhjloeonbjaaaGreatDoor
open Go.RowKit
theorem let_byte (c : UInt8) : letN (c.toNat : Int) = Url.isLet c := by
  unfold letN Url.isLet
  rw [decide_eq_decide]
  omega
theorem dig_byte (c : UInt8) : digN (c.toNat : Int) = Url.isDig c := by
  unfold digN Url.isDig
  rw [decide_eq_decide]
  omega
theorem IsLetter_b (c : UInt8) (w : World) : Calls Tryz.prog 88 #[.int .u8 c.toNat] w fun e w' => e = .returned (.bool (Url.isLet c)) ∧ w' = w := by
  have := IsLetter_n (c.toNat : Int) w
  rw [let_byte] at this
  exact this
theorem IsDigit_b (c : UInt8) (w : World) : Calls Tryz.prog 116 #[.int .u8 c.toNat] w fun e w' => e = .returned (.bool (Url.isDig c)) ∧ w' = w := by
  have := IsDigit_n (c.toNat : Int) w
  rw [dig_byte] at this
  exact this
theorem RIsLetter_b (c : UInt8) (w : World) : Calls Tryz.prog 63 #[.int .u8 c.toNat] w fun e w' => e = .returned (.bool (Url.isLet c)) ∧ w' = w := by
  have := RIsLetter_n (c.toNat : Int) w
  rw [let_byte] at this
  exact this
theorem RIsDigit_b (c : UInt8) (w : World) : Calls Tryz.prog 64 #[.int .u8 c.toNat] w fun e w' => e = .returned (.bool (Url.isDig c)) ∧ w' = w := by
  have := RIsDigit_n (c.toNat : Int) w
  rw [dig_byte] at this
  exact this
theorem byte_is (c m : UInt8) (h : (c.toNat : Int) = (m.toNat : Int)) : c = m := UInt8.toNat_inj.1 (by omega)
set_option maxHeartbeats 1000000 in
theorem isSchemeByte_any (c : UInt8) (w : World) :
    Calls Tryz.prog 87 #[.int .u8 c.toNat] w fun e w' => e = .returned (.bool (Url.schB c)) ∧ w' = w := by
  rcases (show (c.toNat : Int) = 43 ∨ (c.toNat : Int) = 45 ∨ (c.toNat : Int) = 46 ∨ (¬ (c.toNat : Int) = 43 ∧ ¬ (c.toNat : Int) = 45 ∧ ¬ (c.toNat : Int) = 46) from by omega) with h | h | h | ⟨h1, h2, h3⟩
  · rw [byte_is c 43 h]
    go_enter Tryz.func87, Tryz.ntmps87
    go_wp2
    go_ret
    exact ⟨rfl, rfl⟩
  · rw [byte_is c 45 h]
    go_enter Tryz.func87, Tryz.ntmps87
    go_wp2
    go_ret
    exact ⟨rfl, rfl⟩
  · rw [byte_is c 46 h]
    go_enter Tryz.func87, Tryz.ntmps87
    go_wp2
    go_ret
    exact ⟨rfl, rfl⟩
  · have e1 : (c == 43) = false := beq_eq_false_iff_ne.2 (by rintro rfl; exact h1 rfl)
    have e2 : (c == 45) = false := beq_eq_false_iff_ne.2 (by rintro rfl; exact h2 rfl)
    have e3 : (c == 46) = false := beq_eq_false_iff_ne.2 (by rintro rfl; exact h3 rfl)
    have HS : Hid (Url.schB c = (Url.isLet c || Url.isDig c)) := by
      show _ = _
      unfold Url.schB
      rw [e1, e2, e3]
      simp
    clear e1 e2 e3
    have a1 : ((c.toNat : Int) == 43) = false := beq_eq_false_iff_ne.2 h1
    have a2 : ((c.toNat : Int) == 45) = false := beq_eq_false_iff_ne.2 h2
    have a3 : ((c.toNat : Int) == 46) = false := beq_eq_false_iff_ne.2 h3
    cases hl : Url.isLet c
    · rw [hl] at HS
      go_enter Tryz.func87, Tryz.ntmps87
      go_wp2_with (first
        | (go_at_call 88; refine (IsLetter_b c _).mono ?_; rintro e w1 ⟨rfl, hw1⟩; rw [hw1, hl]; clear hw1)
        | (go_at_call 116; refine (IsDigit_b c _).mono ?_; rintro e w1 ⟨rfl, hw1⟩; rw [hw1]; clear hw1))
      go_ret
      exact ⟨by rw [HS.out]; rfl, rfl⟩
    · rw [hl] at HS
      go_enter Tryz.func87, Tryz.ntmps87
      go_wp2_with (first
        | (go_at_call 88; refine (IsLetter_b c _).mono ?_; rintro e w1 ⟨rfl, hw1⟩; rw [hw1, hl]; clear hw1))
      go_ret
      exact ⟨by rw [HS.out]; rfl, rfl⟩
theorem all_next (p : UInt8 → Bool) (l : List UInt8) (k : Nat) (h : k < l.length) : (l.take (k + 1)).all p = ((l.take k).all p && p l[k]) := by
  rw [Asc.take_snoc l k h, List.all_append, List.all_cons, List.all_nil, Bool.and_true]
theorem all_not (p : UInt8 → Bool) (l : List UInt8) (k : Nat) (h : k < l.length) (hp : p l[k] = false) : l.all p = false := by
  rw [Bool.eq_false_iff]
  intro ha
  have := List.all_eq_true.1 ha _ (List.getElem_mem h)
  rw [hp] at this
  cases this
set_option maxHeartbeats 1000000 in
theorem isScheme_any (l : List UInt8) (w : World) (hz : l.length ≤ 1000000000) :
    Calls Tryz.prog 58 #[.string (str l)] w fun e w' => e = .returned (.bool (Url.isScheme l)) ∧ w' = w := by
  have hsz := str_size l
  go_enter Tryz.func58, Tryz.ntmps58
  go_wp2
  go_loopw [6] (fun i wr => ∃ k : Nat, k ≤ l.length ∧ i = .int .i64 k ∧ Hid ((l.take k).all Url.schB = true) ∧ wr = w) (fun i _ => l.length - (intOf i).toNat)
  case atStart => exact ⟨0, Nat.zero_le _, rfl, rfl, rfl⟩
  case round =>
    obtain ⟨k, hk, rfl, HA, rfl⟩ := hrel
    by_cases hlt : k < l.length
    · have hat : ∀ h : k < (str l).size, (str l)[k]'h = l[k] := fun _ => rfl
      have hnx := all_next Url.schB l k hlt
      have hno := all_not Url.schB l k hlt
      cases hp : Url.schB l[k]
      · have HN : Hid (Url.isScheme l = false) := by
          show _ = _
          unfold Url.isScheme
          rw [hno hp]
          rfl
        clear hno hnx
        go_wp2_with (go_at_call 87; refine (isSchemeByte_any l[k] _).mono ?_; rintro e w1 ⟨rfl, hw1⟩; rw [hw1, hp]; clear hw1)
        go_ret
        exact ⟨by rw [HN.out]; rfl, rfl⟩
      · have HN : Hid ((l.take (k + 1)).all Url.schB = true) := by
          show _ = _
          rw [hnx, HA.out, hp]
          rfl
        clear hno hnx
        go_wp2_with (go_at_call 87; refine (isSchemeByte_any l[k] _).mono ?_; rintro e w1 ⟨rfl, hw1⟩; rw [hw1, hp]; clear hw1)
        go_roundw
        case rel => exact ⟨k + 1, by omega, by go_num, HN, by trivial⟩
        case measure => simp [intOf]; omega
    · have hA : l.all Url.schB = true := by
        have := HA.out
        rw [List.take_of_length_le (by omega)] at this
        exact this
      by_cases hn : l = []
      · subst hn
        have he : (str []).toList.isEmpty = true := by rw [str_list]; rfl
        go_wp2
        go_ret
        exact ⟨rfl, rfl⟩
      · have he : (str l).toList.isEmpty = false := by
          rw [str_list]
          cases l with
          | nil => exact absurd rfl hn
          | cons => rfl
        have h0 : 0 < l.length := List.length_pos_iff.2 hn
        have hat : ∀ h : 0 < (str l).size, (str l)[0]'h = l[0] := fun _ => rfl
        have HS : Hid (Url.isScheme l = Url.isLet l[0]) := by
          show _ = _
          unfold Url.isScheme
          rw [hA, Bool.true_and]
          cases l with
          | nil => exact absurd rfl hn
          | cons => rfl
        go_wp2_with (go_at_call 88; refine (IsLetter_b l[0] _).mono ?_; rintro e w1 ⟨rfl, hw1⟩; rw [hw1]; clear hw1)
        go_ret
        exact ⟨by rw [HS.out]; rfl, rfl⟩
theorem lower_len' (l : List UInt8) : (Asc.lower l).length = l.length := by simp [Asc.lower]
theorem Lower_str (l : List UInt8) (w : World) (hz : l.length ≤ 1000000000) :
    Calls Tryz.prog 36 #[.string (str l)] w fun e w' => e = .returned (.string (str (Asc.lower l))) ∧ Below w.heap.size w w' := by
  have := Lower_any (str l) w (by rw [str_size]; exact hz)
  rw [str_data] at this
  exact this
theorem IsP.sch {w : World} {b : Nat} {t : List UInt8} {u : Url.U} (h : IsP w b t u) (s : List UInt8) : IsP (w.setCell ⟨b, 1, none⟩ (.string (str s))) b t { u with sch := s } := Go.Joins.block_setCell h _
theorem IsP.host {w : World} {b : Nat} {t : List UInt8} {u : Url.U} (h : IsP w b t u) (s : List UInt8) : IsP (w.setCell ⟨b, 2, none⟩ (.string (str s))) b t { u with host := s } := Go.Joins.block_setCell h _
theorem IsP.port {w : World} {b : Nat} {t : List UInt8} {u : Url.U} (h : IsP w b t u) (n : Int) : IsP (w.setCell ⟨b, 3, none⟩ (.int .i64 n)) b t { u with port := n } := Go.Joins.block_setCell h _
theorem IsP.path {w : World} {b : Nat} {t : List UInt8} {u : Url.U} (h : IsP w b t u) (s : List UInt8) : IsP (w.setCell ⟨b, 4, none⟩ (.string (str s))) b t { u with path := s } := Go.Joins.block_setCell h _
theorem IsP.query {w : World} {b : Nat} {t : List UInt8} {u : Url.U} (h : IsP w b t u) (s : List UInt8) : IsP (w.setCell ⟨b, 5, none⟩ (.string (str s))) b t { u with query := s } := Go.Joins.block_setCell h _
theorem IsP.frag {w : World} {b : Nat} {t : List UInt8} {u : Url.U} (h : IsP w b t u) (s : List UInt8) : IsP (w.setCell ⟨b, 6, none⟩ (.string (str s))) b t { u with frag := s } := Go.Joins.block_setCell h _
theorem IsP.hq {w : World} {b : Nat} {t : List UInt8} {u : Url.U} (h : IsP w b t u) (x : Bool) : IsP (w.setCell ⟨b, 7, none⟩ (.bool x)) b t { u with hq := x } := Go.Joins.block_setCell h _
theorem IsP.hf {w : World} {b : Nat} {t : List UInt8} {u : Url.U} (h : IsP w b t u) (x : Bool) : IsP (w.setCell ⟨b, 8, none⟩ (.bool x)) b t { u with hf := x } := Go.Joins.block_setCell h _
theorem eq_list {a x : List UInt8} (h : a = x) : ((str a).toList == x) = true := by rw [str_list, h]; simp
theorem ne_list {a x : List UInt8} (h : ¬ a = x) : ((str a).toList == x) = false := by rw [str_list]; simpa using h
set_option maxHeartbeats 2000000 in
set_option maxRecDepth 100000 in
theorem readScheme_any (t : List UInt8) (u : Url.U) (b : Nat) (w : World) (hp : IsP w b t u) (hz : t.length ≤ 1000000000) :
    Calls Tryz.prog 26 #[.pointer (some ⟨b, 0, none⟩)] w fun e w' => e = .returned (.int .i64 (Url.schE t)) ∧ (Url.schE t = 0 → IsP w' b (Url.schR t) { u with sch := Url.sch t }) ∧ Below b w w' := by
  have hul := Url.upto_len [58] t
  have hrl := Url.rest_len [58] t
  have hbl := hp.lt
  have hll := lower_len' (Url.upto [58] t)
  have upc : ∀ W : World, IsP W b t u → Calls Tryz.prog 56 #[.pointer (some ⟨b, 0, none⟩), .string ⟨#[58]⟩] W _ := fun W h => upTo_any [58] t u b W h (by decide) (by decide) (by decide) hz
  cases hh : Url.hasB 58 (Url.rest [58] t)
  · have HS : Hid (Url.schE t = 3) := by
      show _ = _
      unfold Url.schE
      rw [hh]
      rfl
    go_enter Tryz.func26, Tryz.ntmps26
    go_wp2_with (first
      | (go_at_call 56; refine (upc _ hp).mono ?_; rintro e w1 ⟨rfl, hp1, hb1⟩)
      | (go_at_call 36; refine (Lower_str _ _ (by omega)).mono ?_; rintro e w2 ⟨rfl, hb2⟩; have hp2 := hp1.below hb2; have hb2' := belowP hb2 hp1.lt)
      | (go_at_call 57; refine (took_any 58 _ _ b _ hp2).mono ?_; rintro e w3 ⟨rfl, hp3, hb3⟩; rw [hh]))
    go_ret
    exact ⟨by rw [HS.out]; rfl, fun h => absurd (HS.out.symm.trans h) (by decide), hb1.trans (hb2'.trans hb3)⟩
  · cases hs : Url.isScheme (Url.sch t)
    · have HS : Hid (Url.schE t = 3) := by
        show _ = _
        unfold Url.schE
        rw [hs]
        simp
      have hs' : Url.isScheme (Asc.lower (Url.upto [58] t)) = false := hs
      go_enter Tryz.func26, Tryz.ntmps26
      go_wp2_with (first
        | (go_at_call 56; refine (upc _ hp).mono ?_; rintro e w1 ⟨rfl, hp1, hb1⟩)
        | (go_at_call 36; refine (Lower_str _ _ (by omega)).mono ?_; rintro e w2 ⟨rfl, hb2⟩; have hp2 := hp1.below hb2; have hb2' := belowP hb2 hp1.lt)
        | (go_at_call 57; refine (took_any 58 _ _ b _ hp2).mono ?_; rintro e w3 ⟨rfl, hp3, hb3⟩; rw [hh])
        | (go_at_call 58; refine (isScheme_any _ _ (by omega)).mono ?_; rintro e w4 ⟨rfl, hw4⟩; rw [hw4, hs']; clear hw4))
      go_ret
      exact ⟨by rw [HS.out]; rfl, fun h => absurd (HS.out.symm.trans h) (by decide), hb1.trans (hb2'.trans hb3)⟩
    · have hs' : Url.isScheme (Asc.lower (Url.upto [58] t)) = true := hs
      have HE : Hid (Url.schE t = if Url.sch t = Url.http ∨ Url.sch t = Url.https then 0 else 16) := by
        show _ = _
        unfold Url.schE
        rw [if_pos ⟨hh, hs⟩]
      rcases (show Url.sch t = Url.http ∨ Url.sch t = Url.https ∨ (¬ Url.sch t = Url.http ∧ ¬ Url.sch t = Url.https) from by
        by_cases h1 : Url.sch t = Url.http
        · exact .inl h1
        · by_cases h2 : Url.sch t = Url.https
          · exact .inr (.inl h2)
          · exact .inr (.inr ⟨h1, h2⟩)) with h1 | h1 | ⟨h1, h2⟩
      case inr.inr =>
        have n1 : ((str (Asc.lower (Url.upto [58] t))).toList == [104, 116, 116, 112]) = false := ne_list h1
        have n2 : ((str (Asc.lower (Url.upto [58] t))).toList == [104, 116, 116, 112, 115]) = false := ne_list h2
        have HS : Hid (Url.schE t = 16) := HE.out.trans (if_neg (fun h => h.elim h1 h2))
        clear h1 h2
        go_enter Tryz.func26, Tryz.ntmps26
        go_wp2_with (first
          | (go_at_call 56; refine (upc _ hp).mono ?_; rintro e w1 ⟨rfl, hp1, hb1⟩)
          | (go_at_call 36; refine (Lower_str _ _ (by omega)).mono ?_; rintro e w2 ⟨rfl, hb2⟩; have hp2 := hp1.below hb2; have hb2' := belowP hb2 hp1.lt)
          | (go_at_call 57; refine (took_any 58 _ _ b _ hp2).mono ?_; rintro e w3 ⟨rfl, hp3, hb3⟩; rw [hh])
          | (go_at_call 58; refine (isScheme_any _ _ (by omega)).mono ?_; rintro e w4 ⟨rfl, hw4⟩; rw [hw4, hs']; clear hw4))
        go_ret
        exact ⟨by rw [HS.out]; rfl, fun h => absurd (HS.out.symm.trans h) (by decide), hb1.trans (hb2'.trans hb3)⟩
      case inl =>
        have n1 : ((str (Asc.lower (Url.upto [58] t))).toList == [104, 116, 116, 112]) = true := eq_list h1
        have HS : Hid (Url.schE t = 0) := HE.out.trans (if_pos (.inl h1))
        clear h1
        go_enter Tryz.func26, Tryz.ntmps26
        go_wp2_with (first
          | (go_at_call 56; refine (upc _ hp).mono ?_; rintro e w1 ⟨rfl, hp1, hb1⟩)
          | (go_at_call 36; refine (Lower_str _ _ (by omega)).mono ?_; rintro e w2 ⟨rfl, hb2⟩; have hp2 := hp1.below hb2; have hb2' := belowP hb2 hp1.lt)
          | (go_at_call 57; refine (took_any 58 _ _ b _ hp2).mono ?_; rintro e w3 ⟨rfl, hp3, hb3⟩; rw [hh]; rw [hh, if_pos rfl] at hp3; have c3 := hp3.cell 1; have f3 := hp3.frozen 1)
          | (go_at_call 58; refine (isScheme_any _ _ (by omega)).mono ?_; rintro e w4 ⟨rfl, hw4⟩; rw [hw4, hs']; clear hw4))
        go_ret
        exact ⟨by rw [HS.out]; rfl, fun _ => hp3.sch _, (hb1.trans (hb2'.trans hb3)).setCell (p := ⟨b, 1, none⟩) (Nat.le_refl _) _⟩
      case inr.inl =>
        have n1 : ((str (Asc.lower (Url.upto [58] t))).toList == [104, 116, 116, 112]) = false := ne_list (fun h => absurd (h1.symm.trans h) (by decide))
        have n2 : ((str (Asc.lower (Url.upto [58] t))).toList == [104, 116, 116, 112, 115]) = true := eq_list h1
        have HS : Hid (Url.schE t = 0) := HE.out.trans (if_pos (.inr h1))
        clear h1
        go_enter Tryz.func26, Tryz.ntmps26
        go_wp2_with (first
          | (go_at_call 56; refine (upc _ hp).mono ?_; rintro e w1 ⟨rfl, hp1, hb1⟩)
          | (go_at_call 36; refine (Lower_str _ _ (by omega)).mono ?_; rintro e w2 ⟨rfl, hb2⟩; have hp2 := hp1.below hb2; have hb2' := belowP hb2 hp1.lt)
          | (go_at_call 57; refine (took_any 58 _ _ b _ hp2).mono ?_; rintro e w3 ⟨rfl, hp3, hb3⟩; rw [hh]; rw [hh, if_pos rfl] at hp3; have c3 := hp3.cell 1; have f3 := hp3.frozen 1)
          | (go_at_call 58; refine (isScheme_any _ _ (by omega)).mono ?_; rintro e w4 ⟨rfl, hw4⟩; rw [hw4, hs']; clear hw4))
        go_ret
        exact ⟨by rw [HS.out]; rfl, fun _ => hp3.sch _, (hb1.trans (hb2'.trans hb3)).setCell (p := ⟨b, 1, none⟩) (Nat.le_refl _) _⟩
end Go.Proofs.YtlkhjloeonbjaaaGreatDoor
