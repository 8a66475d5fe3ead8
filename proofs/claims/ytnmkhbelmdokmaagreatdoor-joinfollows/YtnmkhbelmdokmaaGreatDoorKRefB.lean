/- Texts laid as one. -/
import Derived.Test.YtnmkhbelmdokmaaGreatDoorKUrlA
import Derived.Test.YtnmkhbelmdokmaaGreatDoorKRefA
import Derived.Test.YtnmkhbelmdokmaaGreatDoorKAscii
import Derived.Test.YtnmkhbelmdokmaaGreatDoorKMath
/- The contracts of the reference's IsSlash, in, until, Clean, Marked. -/
namespace Go.Proofs.YtnmkhbelmdokmaaGreatDoor
open Go.RowKit
theorem RIsSlash_any (c : UInt8) (w : World) :
    Calls Tryz.prog 38 #[.int .u8 c.toNat] w fun e w' => e = .returned (.bool (Url.slash c)) ∧ w' = w := by
  have e45 : ∀ m : UInt8, ((c.toNat : Int) == (m.toNat : Int)) = (c == m) := by
    intro m
    rw [Bool.eq_iff_iff]
    simp only [beq_iff_eq]
    exact ⟨fun h => byte_is c m h, fun h => by rw [h]⟩
  have e1 : ((c.toNat : Int) == 47) = (c == 47) := e45 47
  have e2 : ((c.toNat : Int) == 92) = (c == 92) := e45 92
  have HS : Hid (Url.slash c = (c == 47 || c == 92)) := rfl
  clear e45
  cases h1 : c == 47
  · rw [h1] at e1 HS
    go_enter Tryz.func38, Tryz.ntmps38
    go_wp2
    go_ret
    exact ⟨by rw [HS.out]; rfl, rfl⟩
  · rw [h1] at e1 HS
    go_enter Tryz.func38, Tryz.ntmps38
    go_wp2
    go_ret
    exact ⟨by rw [HS.out]; rfl, rfl⟩
theorem contains_next (l : List UInt8) (c : UInt8) (k : Nat) (h : k < l.length) : (l.take (k + 1)).contains c = ((l.take k).contains c || l[k] == c) := by
  rw [Asc.take_snoc l k h, Bool.eq_iff_iff]
  simp only [List.contains_iff_mem, List.mem_append, List.mem_singleton, Bool.or_eq_true, beq_iff_eq]
  constructor
  · rintro (h | h)
    · exact .inl h
    · exact .inr h.symm
  · rintro (h | h)
    · exact .inl h
    · exact .inr h.symm
set_option maxHeartbeats 1000000 in
theorem Rin_any (c : UInt8) (l : List UInt8) (w : World) (hz : l.length ≤ 1000000000) :
    Calls Tryz.prog 70 #[.int .u8 c.toNat, .string (str l)] w fun e w' => e = .returned (.bool (l.contains c)) ∧ w' = w := by
  have hsz := str_size l
  go_enter Tryz.func70, Tryz.ntmps70
  go_wp2
  go_loopw [5] (fun i wr => ∃ k : Nat, k ≤ l.length ∧ i = .int .i64 k ∧ Hid ((l.take k).contains c = false) ∧ wr = w) (fun i _ => l.length - (intOf i).toNat)
  case atStart => exact ⟨0, Nat.zero_le _, rfl, rfl, rfl⟩
  case round =>
    obtain ⟨k, hk, rfl, HA, rfl⟩ := hrel
    by_cases hlt : k < l.length
    · have hat : ∀ h : k < (str l).size, (str l)[k]'h = l[k] := fun _ => rfl
      have hnx := contains_next l c k hlt
      by_cases hb : l[k] = c
      · have hq := byte_eq_yes hb
        have HN : Hid (l.contains c = true) := List.contains_iff_mem.2 (by rw [← hb]; exact List.getElem_mem hlt)
        clear hnx hb
        go_wp2
        go_ret
        exact ⟨by rw [HN.out]; rfl, rfl⟩
      · have hq := byte_eq_no hb
        have HN : Hid ((l.take (k + 1)).contains c = false) := by
          show _ = _
          rw [hnx, HA.out, beq_eq_false_iff_ne.2 hb]
          rfl
        clear hnx hb
        go_wp2
        go_roundw
        case rel => exact ⟨k + 1, by omega, by go_num, HN, by trivial⟩
        case measure => simp [intOf]; omega
    · have HN : Hid (l.contains c = false) := by
        have := HA.out
        rw [List.take_of_length_le (by omega)] at this
        exact this
      go_wp2
      go_ret
      exact ⟨by rw [HN.out]; rfl, rfl⟩
theorem upto_next (e l : List UInt8) (k : Nat) (h : k < l.length) (hn : e.contains l[k] = false) : l.take k ++ Url.upto e (l.drop k) = l.take (k + 1) ++ Url.upto e (l.drop (k + 1)) := by
  rw [List.drop_eq_getElem_cons h, Asc.take_snoc l k h]
  unfold Url.upto
  rw [List.takeWhile_cons_of_pos (by rw [hn]; rfl), List.append_assoc]
  rfl
theorem upto_stop (e l : List UInt8) (k : Nat) (h : k < l.length) (hn : e.contains l[k] = true) : Url.upto e (l.drop k) = [] := by
  rw [List.drop_eq_getElem_cons h]
  unfold Url.upto
  rw [List.takeWhile_cons_of_neg (by rw [hn]; decide)]
set_option maxHeartbeats 1000000 in
theorem Runtil_any (l e : List UInt8) (w : World) (hz : l.length ≤ 1000000000) (hy : e.length ≤ 1000000000) :
    Calls Tryz.prog 39 #[.string (str l), .string (str e)] w fun r w' => r = .returned (.int .i64 ((Url.upto e l).length : Nat)) ∧ w' = w := by
  have hsz := str_size l
  go_enter Tryz.func39, Tryz.ntmps39
  go_wp2
  go_loopw [5] (fun i wr => ∃ k : Nat, k ≤ l.length ∧ i = .int .i64 k ∧ Hid (Url.upto e l = l.take k ++ Url.upto e (l.drop k)) ∧ wr = w) (fun i _ => l.length - (intOf i).toNat)
  case atStart => exact ⟨0, Nat.zero_le _, rfl, rfl, rfl⟩
  case round =>
    obtain ⟨k, hk, rfl, HA, rfl⟩ := hrel
    by_cases hlt : k < l.length
    · have hat : ∀ h : k < (str l).size, (str l)[k]'h = l[k] := fun _ => rfl
      cases hc : e.contains l[k]
      · have HN : Hid (Url.upto e l = l.take (k + 1) ++ Url.upto e (l.drop (k + 1))) := HA.out.trans (upto_next e l k hlt hc)
        go_wp2_with (go_at_call 70; refine (Rin_any l[k] e _ hy).mono ?_; rintro r w1 ⟨rfl, hw1⟩; rw [hw1, hc]; clear hw1)
        go_roundw
        case rel => exact ⟨k + 1, by omega, by go_num, HN, by trivial⟩
        case measure => simp [intOf]; omega
      · have HN : Hid ((Url.upto e l).length = k) := by
          show _ = _
          rw [HA.out, upto_stop e l k hlt hc, List.append_nil, List.length_take]
          omega
        go_wp2_with (go_at_call 70; refine (Rin_any l[k] e _ hy).mono ?_; rintro r w1 ⟨rfl, hw1⟩; rw [hw1, hc]; clear hw1)
        go_ret
        exact ⟨by rw [HN.out]; rfl, rfl⟩
    · have HN : Hid ((Url.upto e l).length = k) := by
        show _ = _
        rw [HA.out, List.drop_of_length_le (by omega), List.length_append, List.length_take]
        simp [Url.upto]
        omega
      go_wp2
      go_ret
      exact ⟨by rw [HN.out]; rfl, rfl⟩
theorem drop_low (l : List UInt8) (k : Nat) (h : k < l.length) (hx : Url.low l[k] = true) : (l.drop k).dropWhile Url.low = (l.drop (k + 1)).dropWhile Url.low := by
  rw [List.drop_eq_getElem_cons h, List.dropWhile_cons_of_pos hx]
theorem drop_high (l : List UInt8) (k : Nat) (h : k < l.length) (hx : Url.low l[k] = false) : (l.drop k).dropWhile Url.low = l.drop k := by
  rw [List.drop_eq_getElem_cons h, List.dropWhile_cons_of_neg (by rw [hx]; decide)]
theorem low_yes {c : UInt8} (h : (c.toNat : Int) ≤ 32) : Url.low c = true := decide_eq_true (by omega)
theorem low_no {c : UInt8} (h : ¬ (c.toNat : Int) ≤ 32) : Url.low c = false := decide_eq_false (by omega)
set_option maxHeartbeats 4000000 in
set_option maxRecDepth 100000 in
theorem RClean_any (l : List UInt8) (w : World) (hz : l.length ≤ 1000000000) :
    Calls Tryz.prog 35 #[.string (str l)] w fun e w' => e = .returned (.string (str (Url.clean l))) ∧ Below w.heap.size w w' := by
  obtain ⟨i0, hi, hz0, hz1, hz2⟩ := info_parts infoByte
  go_enter Tryz.func35, Tryz.ntmps35
  go_wp2
  go_loopw [0] (fun s wr => ∃ k : Nat, k ≤ l.length ∧ s = .string (str (l.drop k)) ∧ Hid (l.dropWhile Url.low = (l.drop k).dropWhile Url.low) ∧ wr = w) (fun s _ => match s with | .string x => x.size | _ => 0)
  case atStart => exact ⟨0, Nat.zero_le _, by rw [List.drop_zero], by rw [List.drop_zero]; rfl, rfl⟩
  case round =>
    obtain ⟨k, hk, rfl, HE, rfl⟩ := hrel
    have hsz : (str (l.drop k)).size = l.length - k := by rw [str_size, List.length_drop]
    -- what is to do behind the first loop
    by_cases hgo : ∃ h : k < l.length, (l[k].toNat : Int) ≤ 32
    · obtain ⟨hlt, hlow⟩ := hgo
      have h0 : 0 < (str (l.drop k)).size := by omega
      have hp : (0 : Int) < ((l.length - k : Nat) : Int) := by omega
      have ha := at_zero l k hlt h0
      have hext : (str (l.drop k)).extract 1 (l.length - k) = str (l.drop (k + 1)) := by
        have := str_from (l.drop k) 1
        rw [List.length_drop, List.drop_drop] at this
        exact this
      have h1 : (1 : Int) ≤ ((l.length - k : Nat) : Int) := by omega
      have HN : Hid (l.dropWhile Url.low = (l.drop (k + 1)).dropWhile Url.low) := HE.out.trans (drop_low l k hlt (low_yes hlow))
      go_wp2
      go_roundw
      case rel => exact ⟨k + 1, by omega, rfl, HN, by trivial⟩
      case measure => simp only [hsz, str_size, List.length_drop]; omega
    · have HT : Hid (l.dropWhile Url.low = l.drop k) := by
        show _ = _
        rw [HE.out]
        by_cases hlt : k < l.length
        · exact drop_high l k hlt (low_no (fun h => hgo ⟨hlt, h⟩))
        · rw [List.drop_of_length_le (by omega)]
          rfl
      by_cases hlt : k < l.length
      · have hlow : ¬ (l[k].toNat : Int) ≤ 32 := fun h => hgo ⟨hlt, h⟩
        clear hgo HE
        obtain ⟨t, ht⟩ : ∃ t, l.drop k = t := ⟨_, rfl⟩
        have htl : t.length = l.length - k := by rw [← ht, List.length_drop]
        have ht0 : ∀ h : 0 < t.length, t[0] = l[k] := by
          intro h
          subst ht
          rw [List.getElem_drop]
          simp
        rw [ht] at HT hsz ⊢
        clear ht
        have hpos : 0 < t.length := by omega
        have h00 : 0 < (str t).size := by omega
        have hat0 : ∀ h : 0 < (str t).size, (str t)[0]'h = t[0]'hpos := fun _ => rfl
        have hl0 : 32 < ((t[0]'hpos).toNat : Int) := by rw [ht0 hpos]; omega
        have hp : (0 : Int) < ((l.length - k : Nat) : Int) := by omega
        have HC : Hid (Url.clean l = (Url.rtrim t).filter Url.inner) := by
          show _ = _
          unfold Url.clean Url.ends
          rw [HT.out]
        have hln : t.length ≤ 1000000000 := by omega
        clear hlow ht0 HT
        rw [← htl] at hsz hp
        clear htl hlt hk
        go_wp2
        go_loopw [0] (fun s wr' => ∃ j : Nat, 1 ≤ j ∧ j ≤ t.length ∧ s = .string (str (t.take j)) ∧ Hid (Url.rtrim t = Url.rtrim (t.take j)) ∧ wr' = wr) (fun s _ => match s with | .string x => x.size | _ => 0)
        case atStart => exact ⟨t.length, by omega, Nat.le_refl _, by rw [List.take_length], by rw [List.take_length]; rfl, rfl⟩
        case round =>
          obtain ⟨j, hj1, hj2, rfl, HR, rfl⟩ := hrel
          obtain ⟨m, rfl⟩ : ∃ m, j = m + 1 := ⟨j - 1, by omega⟩
          have hzj : (str (t.take (m + 1))).size = m + 1 := by rw [str_size, List.length_take]; omega
          have hm : m < (str (t.take (m + 1))).size := by omega
          have hatm : (str (t.take (m + 1)))[m]'hm = t[m] := by
            show (t.take (m + 1))[m]'(by rw [List.length_take]; omega) = _
            rw [List.getElem_take]
          have hsn := Asc.take_snoc t m (by omega)
          have hpm : (0 : Int) < ((m + 1 : Nat) : Int) := by omega
          have hsub : (((m + 1 : Nat) : Int) - 1) = (m : Int) := by omega
          by_cases hlw : (t[m].toNat : Int) ≤ 32
          · have hm1 : 1 ≤ m := by
              rcases Nat.eq_zero_or_pos m with h | h
              · subst h
                omega
              · exact h
            have HN : Hid (Url.rtrim t = Url.rtrim (t.take m)) := by
              show _ = _
              rw [HR.out, hsn, Url.rtrim_low _ _ (low_yes hlw)]
            have hext : (str (t.take (m + 1))).extract 0 m = str (t.take m) := by
              rw [str_to, List.take_take, Nat.min_eq_left (by omega)]
            have hzm : (str (t.take m)).size = m := by rw [str_size, List.length_take]; omega
            clear hsn
            go_wp2
            go_roundw
            case rel => exact ⟨m, hm1, by omega, rfl, HN, by trivial⟩
            case measure => simp only [hzj, hzm]; omega
          · have HN : Hid (Url.rtrim t = t.take (m + 1)) := by
              show _ = _
              rw [HR.out, hsn, Url.rtrim_stop _ _ (low_no hlw)]
            have HC2 : Hid (Url.clean l = (t.take (m + 1)).filter Url.inner) := by
              show _ = _
              rw [HC.out, HN.out]
            clear hsn HC HN HR
            generalize hte : t.take (m + 1) = e at hzj hm hatm HC2 ⊢
            have hel : Hid (e.length = m + 1) := by show _ = _; rw [← hte, List.length_take]; omega
            clear hte
            obtain ⟨x, hx⟩ : ∃ x, t[m] = x := ⟨_, rfl⟩
            rw [hx] at hatm hlw
            clear hx hat0
            rename World => W0
            go_wp2
            go_loopw [3, 4] (fun v i wr => ∃ k : Nat, k ≤ m + 1 ∧ i = .int .i64 k ∧ OwnsBytes wr W0.heap.size v ((e.take k).filter Url.inner) ∧ Below W0.heap.size W0 wr) (fun _ i _ => m + 1 - (intOf i).toNat)
            case atStart => exact ⟨0, Nat.zero_le _, rfl, OwnsBytes.nil _ _, Below.refl _ _⟩
            case round =>
              obtain ⟨k, hk, rfl, hown, hbel⟩ := hrel
              clear hatm hlw
              have hfl : ((e.take k).filter Url.inner).length ≤ k := Nat.le_trans (List.length_filter_le _ _) (by rw [List.length_take]; omega)
              by_cases hlt : k < m + 1
              · have hke : k < e.length := by rw [hel.out]; exact hlt
                have hfn := filter_next e k hke
                have hat : ∀ h : k < (str e).size, (str e)[k]'h = e[k]'hke := fun _ => rfl
                obtain ⟨c, hc⟩ : ∃ c, e[k]'hke = c := ⟨_, rfl⟩
                rw [hc] at hfn
                have hat2 : ∀ h : k < (str e).size, (str e)[k]'h = c := fun h => (hat h).trans hc
                clear hat hc
                have HF : Hid _ := hfn
                clear hfn
                have hsz := hbel.size
                rcases (show (c.toNat : Int) = 9 ∨ (c.toNat : Int) = 10 ∨ (c.toNat : Int) = 13 ∨ (¬ (c.toNat : Int) = 9 ∧ ¬ (c.toNat : Int) = 10 ∧ ¬ (c.toNat : Int) = 13) from by omega) with h | h | h | ⟨h9, h10, h13⟩
                case inr.inr.inr =>
                  have HI : Hid (Url.inner c = true) := inner_yes h9 h10 h13
                  have a9 : ((c.toNat : Int) != 9) = true := by rw [bne_iff_ne]; exact h9
                  have a10 : ((c.toNat : Int) != 10) = true := by rw [bne_iff_ne]; exact h10
                  have a13 : ((c.toNat : Int) != 13) = true := by rw [bne_iff_ne]; exact h13
                  have HF2 : Hid ((e.take (k + 1)).filter Url.inner = (e.take k).filter Url.inner ++ [c]) := by
                    show _ = _
                    rw [HF.out, if_pos HI.out]
                  go_wp2_with (first
                    | (at_builtin; refine wpList_append_own _ rfl _ _ 62 rfl W0.heap.size 5 i0 (.int .u8 0) 1 1 Tryz.underlying62 hi hz0 hz1 hz2 rfl (by decide) _ _ _ rfl (World.ownsRow.alloc hown _) ⟨wr.heap.size, 0, none⟩ 1 1 [.int .u8 c.toNat] rfl rfl (cell_one_new _ _ _) (fun x hx => by simp at hx; subst hx; rfl) (by unfold maxLen; omega) (by omega) (by simp; omega) ?_; intro v' w3 hown' hgrow hnil))
                  go_roundw
                  case rel => exact ⟨k + 1, by omega, by go_num, OwnsBytes.of HF2.out rfl hown', (hbel.alloc hsz _).grown hgrow (by simp; omega) (fun q hq => (World.ownsRow.lt hown q hq).1)⟩
                  case measure => simp [intOf]; omega
                all_goals
                  have HI : Hid (Url.inner c = false) := inner_no (by omega)
                  have HF2 : Hid ((e.take (k + 1)).filter Url.inner = (e.take k).filter Url.inner) := by
                    show _ = _
                    rw [HF.out, if_neg (by rw [HI.out]; decide), List.append_nil]
                  go_wp2
                  go_roundw
                  case rel => exact ⟨k + 1, by omega, by go_num, by rw [HF2.out]; exact hown, hbel⟩
                  case measure => simp [intOf]; omega
              · have HN : Hid ((e.take k).filter Url.inner = Url.clean l) := by
                  show _ = _
                  rw [HC2.out, List.take_of_length_le (by rw [hel.out]; omega)]
                have hconv := conv_owned hown
                rw [HN.out] at hconv
                go_wp2
                go_ret
                exact ⟨rfl, hbel⟩
      · have hte : l.drop k = [] := List.drop_of_length_le (by omega)
        have HC : Hid (Url.clean l = []) := by
          show _ = _
          unfold Url.clean Url.ends
          rw [HT.out, hte]
          rfl
        have hz0' : l.length - k = 0 := by omega
        rw [hte] at hsz ⊢
        rw [hz0'] at hsz
        clear hgo HE HT hte hz0'
        have hconv := conv_owned (OwnsBytes.nil wr wr.heap.size)
        go_wp2
        go_loopw [0] (fun s wr' => s = .string (str []) ∧ wr' = wr) (fun _ _ => 0)
        case atStart => exact ⟨rfl, rfl⟩
        case round =>
          obtain ⟨rfl, rfl⟩ := hrel
          go_wp2
          go_loopw [3, 4] (fun v i wr2 => v = .slice none 0 0 ∧ i = .int .i64 0 ∧ wr2 = wr) (fun _ _ _ => 0)
          case atStart => exact ⟨rfl, rfl, rfl⟩
          case round =>
            obtain ⟨rfl, rfl, rfl⟩ := hrel
            go_wp2
            go_ret
            exact ⟨by rw [HC.out]; rfl, Below.refl _ _⟩
end Go.Proofs.YtnmkhbelmdokmaaGreatDoor
/- The contract of the reference's Marked. -/
namespace Go.Proofs.YtnmkhbelmdokmaaGreatDoor
open Go.RowKit
theorem in3 (c : UInt8) (w : World) : Calls Tryz.prog 70 #[.int .u8 c.toNat, .string ⟨#[34, 60, 62]⟩] w fun e w' => e = .returned (.bool (([34, 60, 62] : List UInt8).contains c)) ∧ w' = w := Rin_any c [34, 60, 62] w (by decide)
theorem marks_low {more : List UInt8} {c : UInt8} (h : (c.toNat : Int) ≤ 32) : Url.marks more c = true := by
  unfold Url.marks
  rw [decide_eq_true (show c.toNat ≤ 32 by omega)]
  rfl
theorem marks_high {more : List UInt8} {c : UInt8} (h : (126 : Int) < (c.toNat : Int)) : Url.marks more c = true := by
  unfold Url.marks
  rw [decide_eq_true (show 126 < c.toNat by omega)]
  simp
theorem marks_in {more : List UInt8} {c : UInt8} (h1 : ¬ (c.toNat : Int) ≤ 32) (h2 : ¬ (126 : Int) < (c.toNat : Int)) : Url.marks more c = (([34, 60, 62] : List UInt8).contains c || more.contains c) := by
  unfold Url.marks
  rw [decide_eq_false (show ¬ c.toNat ≤ 32 by omega), decide_eq_false (show ¬ 126 < c.toNat by omega)]
  rfl
theorem one_cut (l : List UInt8) (k : Nat) (h : k < l.length) : (str l).extract k (k + 1) = str [l[k]] := by
  apply str_eq
  rw [data_cut, str_data, Asc.take_snoc l k h, List.drop_append_of_le_length (by rw [List.length_take]; omega), List.drop_of_length_le (by rw [List.length_take]; omega)]
  rfl
set_option maxHeartbeats 4000000 in
set_option maxRecDepth 100000 in
theorem RMarked_any (l more free : List UInt8) (w : World) (hs : ∀ c, Pct.stays free c = !Url.marks more c) (ha : ∀ c, Url.marks more c = true → Pct.mark [] [c] = Pct.mk c) (hz : l.length ≤ 100000000) (hm : more.length ≤ 1000000000) :
    Calls Tryz.prog 74 #[.string (str l), .string (str more)] w fun e w' => e = .returned (.string (str (Pct.mark free l))) ∧ Below w.heap.size w w' := by
  have hsz := str_size l
  have HS : Hid _ := hs
  have HA : Hid _ := ha
  clear hs ha
  go_enter Tryz.func74, Tryz.ntmps74
  go_wp2
  go_loopw [5, 6] (fun o i wr => ∃ k : Nat, k ≤ l.length ∧ i = .int .i64 k ∧ o = .string (str (Pct.mark free (l.take k))) ∧ Below w.heap.size w wr) (fun _ i _ => l.length - (intOf i).toNat)
  case atStart => exact ⟨0, Nat.zero_le _, rfl, rfl, Below.refl _ _⟩
  case round =>
    obtain ⟨k, hk, rfl, rfl, hbel⟩ := hrel
    by_cases hlt : k < l.length
    · have hat : ∀ h : k < (str l).size, (str l)[k]'h = l[k] := fun _ => rfl
      have hext := one_cut l k hlt
      have hnx := Pct.mark_next free l k hlt
      have hml := Pct.mark_len free (l.take k)
      rw [List.length_take] at hml
      have hms := str_size (Pct.mark free (l.take k))
      have hms2 : (str (Pct.mark free (l.take k))).size ≤ 300000000 := by omega
      clear hms
      obtain ⟨c, hc⟩ : ∃ c, l[k] = c := ⟨_, rfl⟩
      rw [hc] at hnx hext
      have hat2 : ∀ h : k < (str l).size, (str l)[k]'h = c := fun h => (hat h).trans hc
      clear hat hc
      have hk1 : (k : Int) + 1 ≤ (l.length : Int) := by omega
      cases hmk : Url.marks more c
      · have hst : Pct.stays free c = true := by rw [HS.out, hmk]; rfl
        rw [Pct.one_yes hst] at hnx
        have HN : Hid _ := hnx
        have hcat : str (Pct.mark free (l.take k)) ++ str [c] = str (Pct.mark free (l.take (k + 1))) := by rw [HN.out]; exact str_add _ _
        have hz1 : (str [c]).size = 1 := rfl
        have h1 : ¬ (c.toNat : Int) ≤ 32 := fun h => by rw [marks_low h] at hmk; cases hmk
        have h2 : ¬ (126 : Int) < (c.toNat : Int) := fun h => by rw [marks_high h] at hmk; cases hmk
        rw [marks_in h1 h2, Bool.or_eq_false_iff] at hmk
        obtain ⟨h3, h4⟩ := hmk
        clear hnx hst
        go_wp2_with (first
          | (go_at_call_of 70 (⟨#[34, 60, 62]⟩ : ByteArray); refine (in3 c _).mono ?_; rintro e w1 ⟨rfl, hw1⟩; rw [hw1, h3]; clear hw1)
          | (go_at_call_of 70 (str more); refine (Rin_any c more _ hm).mono ?_; rintro e w1 ⟨rfl, hw1⟩; rw [hw1, h4]; clear hw1))
        go_roundw
        case rel => exact ⟨k + 1, by omega, by go_num, rfl, hbel⟩
        case measure => simp [intOf]; omega
      · have hst : Pct.stays free c = false := by rw [HS.out, hmk]; rfl
        rw [Pct.one_no hst] at hnx
        have HN : Hid _ := hnx
        have hcat : str (Pct.mark free (l.take k)) ++ str (Pct.mk c) = str (Pct.mark free (l.take (k + 1))) := by rw [HN.out]; exact str_add _ _
        have hz1 : (str (Pct.mk c)).size = 3 := rfl
        have mkc : ∀ W : World, Calls Tryz.prog 105 #[.string (str [c]), .string ⟨#[]⟩] W fun e w' => e = .returned (.string (str (Pct.mk c))) ∧ Below W.heap.size W w' := fun W => by
          have := RMark_any (str [c]) (str []) W (by rw [str_size]; simp) (by rw [str_size]; simp)
          rw [str_data, str_data, HA.out c hmk] at this
          exact this
        clear hnx hst
        by_cases h1 : (c.toNat : Int) ≤ 32
        · go_wp2_with (go_at_call 105; refine (mkc _).mono ?_; rintro e w2 ⟨rfl, hb2⟩)
          go_roundw
          case rel => exact ⟨k + 1, by omega, by go_num, rfl, bel hbel hb2⟩
          case measure => simp [intOf]; omega
        · by_cases h2 : (126 : Int) < (c.toNat : Int)
          · go_wp2_with (go_at_call 105; refine (mkc _).mono ?_; rintro e w2 ⟨rfl, hb2⟩)
            go_roundw
            case rel => exact ⟨k + 1, by omega, by go_num, rfl, bel hbel hb2⟩
            case measure => simp [intOf]; omega
          · rw [marks_in h1 h2] at hmk
            cases h3 : ([34, 60, 62] : List UInt8).contains c
            · rw [h3, Bool.false_or] at hmk
              go_wp2_with (first
                | (go_at_call_of 70 (⟨#[34, 60, 62]⟩ : ByteArray); refine (in3 c _).mono ?_; rintro e w1 ⟨rfl, hw1⟩; rw [hw1, h3]; clear hw1)
                | (go_at_call_of 70 (str more); refine (Rin_any c more _ hm).mono ?_; rintro e w1 ⟨rfl, hw1⟩; rw [hw1, hmk]; clear hw1)
                | (go_at_call 105; refine (mkc _).mono ?_; rintro e w2 ⟨rfl, hb2⟩))
              go_roundw
              case rel => exact ⟨k + 1, by omega, by go_num, rfl, bel hbel hb2⟩
              case measure => simp [intOf]; omega
            · clear hmk
              go_wp2_with (first
                | (go_at_call_of 70 (⟨#[34, 60, 62]⟩ : ByteArray); refine (in3 c _).mono ?_; rintro e w1 ⟨rfl, hw1⟩; rw [hw1, h3]; clear hw1)
                | (go_at_call 105; refine (mkc _).mono ?_; rintro e w2 ⟨rfl, hb2⟩))
              go_roundw
              case rel => exact ⟨k + 1, by omega, by go_num, rfl, bel hbel hb2⟩
              case measure => simp [intOf]; omega
    · have HN : Hid (Pct.mark free (l.take k) = Pct.mark free l) := by
        show _ = _
        rw [List.take_of_length_le (by omega)]
      go_wp2
      go_ret
      exact ⟨by rw [← HN.out]; rfl, hbel⟩
theorem RMarkedP (l : List UInt8) (w : World) (hz : l.length ≤ 100000000) :
    Calls Tryz.prog 74 #[.string (str l), .string ⟨#[35, 63, 96, 123, 125]⟩] w fun e w' => e = .returned (.string (str (Pct.mark Url.freeP l))) ∧ Below w.heap.size w w' :=
  RMarked_any l Url.moreP Url.freeP w Url.stays_P Url.alone_P hz (by decide)
theorem RMarkedQ (l : List UInt8) (w : World) (hz : l.length ≤ 100000000) :
    Calls Tryz.prog 74 #[.string (str l), .string ⟨#[35, 39]⟩] w fun e w' => e = .returned (.string (str (Pct.mark Url.freeQ l))) ∧ Below w.heap.size w w' :=
  RMarked_any l Url.moreQ Url.freeQ w Url.stays_Q Url.alone_Q hz (by decide)
theorem RMarkedF (l : List UInt8) (w : World) (hz : l.length ≤ 100000000) :
    Calls Tryz.prog 74 #[.string (str l), .string ⟨#[96]⟩] w fun e w' => e = .returned (.string (str (Pct.mark Url.freeF l))) ∧ Below w.heap.size w w' :=
  RMarked_any l Url.moreF Url.freeF w Url.stays_F Url.alone_F hz (by decide)
end Go.Proofs.YtnmkhbelmdokmaaGreatDoor
/- The contracts of the reference's dots and parts. -/
namespace Go.Proofs.YtnmkhbelmdokmaaGreatDoor
open Go.RowKit
theorem RLower_str (l : List UInt8) (w : World) (hz : l.length ≤ 1000000000) :
    Calls Tryz.prog 37 #[.string (str l)] w fun e w' => e = .returned (.string (str (Asc.lower l))) ∧ Below w.heap.size w w' := by
  have := RLower_any (str l) w (by rw [str_size]; exact hz)
  rw [str_data] at this
  exact this
theorem dots_some (l : List UInt8) (m : Nat) (h : Url.cnt l = some m) : Url.dots l = if 2 < m then 0 else m := by
  unfold Url.dots
  rw [h]
  match m with
  | 0 => rfl
  | 1 => rfl
  | 2 => rfl
  | n + 3 => simp
theorem dots_none (l : List UInt8) (h : Url.cnt l = none) : Url.dots l = 0 := by
  unfold Url.dots
  rw [h]
theorem str_head (a : UInt8) (r : List UInt8) (h : 0 < (str (a :: r)).size) : (str (a :: r))[0]'h = a := rfl
set_option maxHeartbeats 2000000 in
set_option maxRecDepth 100000 in
theorem Rdots_any (l : List UInt8) (w : World) (hz : l.length ≤ 1000000000) :
    Calls Tryz.prog 103 #[.string (str l)] w fun e w' => e = .returned (.int .i64 (Url.dots l : Nat)) ∧ Below w.heap.size w w' := by
  go_enter Tryz.func103, Tryz.ntmps103
  go_wp2
  go_loopw [0, 3] (fun s n wr => ∃ (r : List UInt8) (m : Nat), s = .string (str r) ∧ n = .int .i64 m ∧ r.length + m ≤ l.length ∧ Hid (Url.cnt l = (Url.cnt r).map (· + m)) ∧ Below w.heap.size w wr) (fun s _ _ => match s with | .string x => x.size | _ => 0)
  case atStart => exact ⟨l, 0, rfl, rfl, by omega, by show _ = _; cases Url.cnt l <;> rfl, Below.refl _ _⟩
  case round =>
    obtain ⟨r, m, rfl, rfl, hlen, HC, hbel⟩ := hrel
    have hsz := str_size r
    cases r with
    | nil =>
      have HD : Hid (Url.dots l = if 2 < m then 0 else m) := dots_some l m (by rw [HC.out]; simp [Url.cnt])
      by_cases h2 : 2 < m
      · have h2' : (2 : Int) < (m : Int) := by omega
        have HD2 : Hid (Url.dots l = 0) := by show _ = _; rw [HD.out, if_pos h2]
        clear h2
        go_wp2
        go_ret
        exact ⟨by rw [HD2.out]; rfl, hbel⟩
      · have h2' : ¬ (2 : Int) < (m : Int) := by omega
        have HD2 : Hid (Url.dots l = m) := by show _ = _; rw [HD.out, if_neg h2]
        clear h2
        go_wp2
        go_ret
        exact ⟨by rw [HD2.out]; rfl, hbel⟩
    | cons a r =>
      rw [List.length_cons] at hsz hlen
      have hat := str_head a r
      have hext1 : (str (a :: r)).extract 1 (r.length + 1) = str r := by
        have := str_from (a :: r) 1
        rw [List.length_cons] at this
        exact this
      have hs1 : (1 : Int) ≤ ((r.length + 1 : Nat) : Int) := by omega
      have hsr := str_size r
      by_cases ha : a = 46
      · subst ha
        have hq : (((46 : UInt8).toNat : Int) == 46) = true := rfl
        have HN : Hid (Url.cnt l = (Url.cnt r).map (· + (m + 1))) := by
          show _ = _
          rw [HC.out, Url.cnt_dot, Option.map_map]
          congr 1
          funext x
          simp
          omega
        go_wp2
        go_roundw
        case rel => exact ⟨r, m + 1, rfl, by go_num, by omega, HN, hbel⟩
        case measure => simp only [hsz, hsr]; omega
      · have hq : ((a.toNat : Int) == 46) = false := beq_eq_false_iff_ne.2 (fun h => ha (byte_is a 46 h))
        by_cases hm : Asc.lower ((a :: r).take 3) = [37, 50, 101]
        · match r, hm, hlen, hsz, hext1, hs1, hsr, HC, hat with
          | [], hm, _, _, _, _, _, _, _ => simp [Asc.lower] at hm
          | [b], hm, _, _, _, _, _, _, _ => simp [Asc.lower] at hm
          | b :: c :: r, hm, hlen, hsz, hext1, hs1, hsr, HC, hat =>
            have hm' : Asc.lower [a, b, c] = [37, 50, 101] := hm
            have hl3 : Asc.lowerC a = 37 ∧ Asc.lowerC b = 50 ∧ Asc.lowerC c = 101 := by simpa [Asc.lower] using hm'
            have HN : Hid (Url.cnt l = (Url.cnt r).map (· + (m + 1))) := by
              show _ = _
              rw [HC.out, Url.cnt_mark a b c r ha hl3, Option.map_map]
              congr 1
              funext x
              simp
              omega
            have hext3 : (str (a :: b :: c :: r)).extract 3 (r.length + 3) = str r := str_from (a :: b :: c :: r) 3
            have hextT : (str (a :: b :: c :: r)).extract 0 3 = str [a, b, c] := str_to (a :: b :: c :: r) 3
            have hz3 : (str (a :: b :: c :: r)).size = r.length + 3 := str_size _
            have lowc : ∀ W : World, Calls Tryz.prog 37 #[.string (str [a, b, c])] W fun e w' => e = .returned (.string ⟨#[37, 50, 101]⟩) ∧ Below W.heap.size W w' := fun W => by
              have := RLower_str [a, b, c] W (by simp)
              rw [hm'] at this
              exact this
            have h2' : (2 : Int) < ((r.length + 3 : Nat) : Int) := by omega
            have h3' : (3 : Int) ≤ ((r.length + 3 : Nat) : Int) := by omega
            have hsr2 := str_size r
            simp only [List.length_cons] at hlen
            clear hm hm' hl3 hsz hext1 hs1 hsr
            go_wp2_with (go_at_call 37; refine (lowc _).mono ?_; rintro e w1 ⟨rfl, hb1⟩)
            go_roundw
            case rel => exact ⟨r, m + 1, rfl, by go_num, by omega, HN, bel hbel hb1⟩
            case measure => simp only [hz3, hsr2]; omega
        · have HD : Hid (Url.dots l = 0) := dots_none l (by rw [HC.out, Url.cnt_none a r ha hm]; rfl)
          by_cases h2 : 2 < r.length + 1
          · have h2' : (2 : Int) < ((r.length + 1 : Nat) : Int) := by omega
            have h3' : (3 : Int) ≤ ((r.length + 1 : Nat) : Int) := by omega
            have hextT : (str (a :: r)).extract 0 3 = str ((a :: r).take 3) := str_to (a :: r) 3
            have n1 := ne_list hm
            have htl : ((a :: r).take 3).length ≤ 3 := by rw [List.length_take]; omega
            generalize (a :: r).take 3 = t3 at hextT n1 htl
            clear hm h2
            go_wp2_with (go_at_call 37; refine (RLower_str t3 _ (by omega)).mono ?_; rintro e w1 ⟨rfl, hb1⟩)
            go_ret
            exact ⟨by rw [HD.out]; rfl, bel hbel hb1⟩
          · have h2' : ¬ (2 : Int) < ((r.length + 1 : Nat) : Int) := by omega
            clear hm h2
            go_wp2
            go_ret
            exact ⟨by rw [HD.out]; rfl, hbel⟩
theorem turned_at (l : List UInt8) (k : Nat) (h : k < l.length) (h' : k < (Pct.turned l 92 47).length) : (Pct.turned l 92 47)[k] = if l[k] = 92 then 47 else l[k] := by
  simp [Pct.turned]
theorem slash_turned (c : UInt8) : (if c = 92 then (47 : UInt8) else c) = 47 ↔ Url.slash c = true := by
  unfold Url.slash
  by_cases h : c = 92
  · subst h; simp
  · rw [if_neg h]
    simp [h]
theorem sst_slash (l : List UInt8) (k : Nat) (h : k < l.length) (hb : Url.slash l[k] = true) : Asc.sst 47 ((Pct.turned l 92 47).take (k + 1)) = ((Asc.sst 47 ((Pct.turned l 92 47).take k)).1 ++ [(Asc.sst 47 ((Pct.turned l 92 47).take k)).2], []) := by
  have h' : k < (Pct.turned l 92 47).length := by rw [Pct.turned_len]; exact h
  rw [Asc.sst_next 47 _ k h', Asc.sstep, if_pos]
  rw [turned_at l k h h']
  exact (slash_turned _).2 hb
theorem sst_noslash (l : List UInt8) (k : Nat) (h : k < l.length) (hb : Url.slash l[k] = false) : Asc.sst 47 ((Pct.turned l 92 47).take (k + 1)) = ((Asc.sst 47 ((Pct.turned l 92 47).take k)).1, (Asc.sst 47 ((Pct.turned l 92 47).take k)).2 ++ [l[k]]) := by
  have h' : k < (Pct.turned l 92 47).length := by rw [Pct.turned_len]; exact h
  have hne : ¬ (if l[k] = 92 then (47 : UInt8) else l[k]) = 47 := fun e => by rw [(slash_turned _).1 e] at hb; cases hb
  rw [Asc.sst_next 47 _ k h', Asc.sstep, turned_at l k h h', if_neg hne, if_neg]
  intro e
  rw [e] at hne
  exact hne rfl
set_option maxHeartbeats 2000000 in
set_option maxRecDepth 100000 in
theorem Rparts_any (l : List UInt8) (w : World) (hz : l.length ≤ 1000000000) :
    Calls Tryz.prog 102 #[.string (str l)] w fun e w' => ∃ v, e = .returned v ∧ OwnsTexts w' w.heap.size v (Asc.split (Pct.turned l 92 47) 47) ∧ Below w.heap.size w w' := by
  obtain ⟨i0, hi, hz0, hz1, hz2⟩ := info_parts info9
  have hsz := str_size l
  go_enter Tryz.func102, Tryz.ntmps102
  go_wp2
  go_loopw [3, 4] (fun v i wr => ∃ (k : Nat) (ts : List (List UInt8)) (t : List UInt8), k ≤ l.length ∧ i = .int .i64 k ∧ ts.length ≤ k ∧ t.length ≤ k ∧ Hid (Asc.sst 47 ((Pct.turned l 92 47).take k) = (ts, t)) ∧ OwnsTexts wr w.heap.size v (ts ++ [t]) ∧ Below w.heap.size w wr) (fun _ i _ => l.length - (intOf i).toNat)
  case atStart => exact ⟨0, [], [], Nat.zero_le _, rfl, Nat.le_refl _, Nat.le_refl _, rfl, owns_first w, (Below.refl _ _).alloc (Nat.le_refl _) _⟩
  case round =>
    obtain ⟨k, ts, t, hk, rfl, htk, htl, HR, hown, hbel⟩ := hrel
    have hlen : (ts ++ [t]).length = ts.length + 1 := by simp
    by_cases hlt : k < l.length
    · have hat : ∀ h : k < (str l).size, (str l)[k]'h = l[k] := fun _ => rfl
      cases hb : Url.slash l[k]
      · obtain ⟨g, cap, rfl⟩ := Joins.ownsRow_form hown (by omega)
        have hcell : wr.cell? ⟨g, ts.length, none⟩ = some (.string (str t)) := (World.ownsRow.cellAt (w := wr) hown ts.length (by omega)).trans (last_cell ts t)
        have hfr := World.ownsRow.frozenAt (w := wr) hown ts.length
        have hst := World.ownsRow.stored (w := wr) hown ts.length (.string (str (t ++ [l[k]])))
        rw [last_set] at hst
        have HS := show Hid _ from hst
        have hext := one_cut l k hlt
        have HZ : Hid (str t ++ str [l[k]] = str (t ++ [l[k]])) := str_add _ _
        have HN : Hid (Asc.sst 47 ((Pct.turned l 92 47).take (k + 1)) = (ts, t ++ [l[k]])) := by
          show _ = _
          rw [sst_noslash l k hlt hb, HR.out]
        have hts : (str t).size ≤ 1000000000 := by rw [str_size]; omega
        have hcz : (str [l[k]]).size = 1 := rfl
        have hl1 : ((ts ++ [t]).length : Int) - 1 = (ts.length : Int) := by omega
        have HG : Hid (w.heap.size ≤ g) := (World.ownsRow.lt hown g rfl).1
        have HL : Hid ((ts ++ [t]).length = ts.length + 1) := hlen
        have hk1 : (k : Int) + 1 ≤ (l.length : Int) := by omega
        clear hlen hst hown
        go_wp2_with (go_at_call 38; refine (RIsSlash_any l[k] _).mono ?_; rintro e w1 ⟨rfl, hw1⟩; rw [hw1, hb]; clear hw1)
        go_region
        rw [HZ.out]
        go_wp2
        go_roundw
        case rel => exact ⟨k + 1, ts, t ++ [l[k]], by omega, by go_num, by omega, by rw [List.length_append]; simp; omega, HN, by have := owns_same HS.out.1; rw [HL.out] at this; exact this, (hbel.setCell HG.out _).drew⟩
        case measure => simp [intOf]; omega
      · have HN : Hid (Asc.sst 47 ((Pct.turned l 92 47).take (k + 1)) = (ts ++ [t], [])) := by
          show _ = _
          rw [sst_slash l k hlt hb, HR.out]
        have HL : Hid ((ts ++ [t]).length = ts.length + 1) := hlen
        have hl2 : (ts ++ [t]).length ≤ 1000000001 := by omega
        clear hlen
        go_wp2_with (first
          | (go_at_call 38; refine (RIsSlash_any l[k] _).mono ?_; rintro e w1 ⟨rfl, hw1⟩; rw [hw1, hb]; clear hw1)
          | (at_builtin; refine wpList_append_own _ rfl _ _ 39 rfl w.heap.size 9 i0 (.string ByteArray.empty) 1 16 Tryz.underlying39 hi hz0 hz1 hz2 rfl (by decide) _ _ _ rfl (World.ownsRow.alloc hown _) ⟨wr.heap.size, 0, none⟩ 1 1 [.string ⟨#[]⟩] rfl rfl (cell_one_new _ _ _) (fun x hx => by simp at hx; subst hx; rfl) (by unfold maxLen; omega) (by omega) (by have := hbel.size; simp; omega) ?_; intro v' w3 hown' hgrow3 hnil3))
        go_roundw
        case rel => exact ⟨k + 1, ts ++ [t], [], by omega, by go_num, by have := HL.out; omega, Nat.zero_le _, HN, OwnsTexts.of rfl rfl hown', (hbel.alloc hbel.size _).grown hgrow3 (by have := hbel.size; simp; omega) (fun q hq => (World.ownsRow.lt hown q hq).1)⟩
        case measure => simp [intOf]; omega
    · have HN : Hid (Asc.split (Pct.turned l 92 47) 47 = ts ++ [t]) := by
        have h1 := HR.out
        rw [List.take_of_length_le (by rw [Pct.turned_len]; omega)] at h1
        show _ = _
        rw [Asc.split, h1]
      go_wp2
      go_ret
      exact ⟨_, rfl, by rw [HN.out]; exact hown, hbel⟩
end Go.Proofs.YtnmkhbelmdokmaaGreatDoor
/- The contract of the reference's Path. -/
namespace Go.Proofs.YtnmkhbelmdokmaaGreatDoor
open Go.RowKit
/-- A path's text without a slash ahead. -/
def unhead (l : List UInt8) : List UInt8 := match l with | [] => [] | c :: r => if Url.slash c = true then r else c :: r
theorem unhead_yes {c : UInt8} (r : List UInt8) (h : Url.slash c = true) : unhead (c :: r) = r := by simp [unhead, h]
theorem unhead_no {c : UInt8} (r : List UInt8) (h : Url.slash c = false) : unhead (c :: r) = c :: r := by simp [unhead, h]
theorem unhead_turned (l : List UInt8) : Pct.turned (unhead l) 92 47 = Lib.trimPrefix (Pct.turned l 92 47) [47] := by
  cases l with
  | nil => rfl
  | cons c r =>
    unfold unhead Lib.trimPrefix Lib.hasPrefix Pct.turned
    simp only [List.map_cons, List.isPrefixOf, Bool.and_true]
    have hs := slash_turned c
    by_cases h : Url.slash c = true
    · rw [if_pos h, hs.2 h]
      simp
    · rw [if_neg h, if_neg]
      · simp
      · intro e
        exact h (hs.1 (beq_iff_eq.1 e).symm)
theorem parts_eq (l : List UInt8) : Url.pparts l = (Asc.split (Pct.turned (unhead l) 92 47) 47).map (Pct.mark Url.freeP) := by
  unfold Url.pparts
  rw [Url.split_mark, unhead_turned]
theorem unhead_len (l : List UInt8) : (unhead l).length ≤ l.length := by
  unfold unhead
  split
  · simp
  · split <;> simp
theorem RJoin_slash (v : Value) (ts : List (List UInt8)) (w : World) (hv : ReadsTexts w v ts) (hn : ts.length ≤ 1000000000) (hl : (Lib.join ts [47]).length ≤ 1000000000) :
    Calls Tryz.prog 104 #[.string ⟨#[47]⟩, v] w fun e w' => e = .returned (.string (str (Lib.join ts [47]))) ∧ w' = w :=
  RJoin_any ⟨#[47]⟩ v ts w hv hn (Nat.le_trans hl (by decide))
theorem cells_clone {w : World} {B g c : Nat} {ts : List (List UInt8)} (h : OwnsTexts w B (.slice (some ⟨g, 0, none⟩) ts.length c) ts) : ∀ (j : Nat) u, (ts.map strV)[j]? = some u → w.cell? ((⟨g, 0, none⟩ : Addr).add j) = some u := by
  intro j u hu
  have hlt : j < ts.length := by
    have := (List.getElem?_eq_some_iff.1 hu).1
    simpa using this
  rw [show (⟨g, 0, none⟩ : Addr).add j = ⟨g, j, none⟩ from by unfold Addr.add; split <;> simp_all, World.ownsRow.cellAt (w := w) h j (by omega)]
  exact hu
theorem one_strV (ts : List (List UInt8)) : ∀ u ∈ ts.map strV, u.oneCell' = true := by
  intro u hu
  obtain ⟨t, _, rfl⟩ := List.mem_map.1 hu
  rfl
set_option maxHeartbeats 4000000 in
set_option maxRecDepth 100000 in
theorem RPath_any (l : List UInt8) (w : World) (hz : l.length ≤ 10000000) :
    Calls Tryz.prog 73 #[.string (str l)] w fun e w' => e = .returned (.string (str (Url.path l))) ∧ Below w.heap.size w w' := by
  obtain ⟨i0, hi, hz0, hz1, hz2⟩ := info_parts info9
  have hsz := str_size l
  have hul := unhead_len l
  have hcnt := Url.pparts_count l
  have hne := Url.pparts_ne l
  have hks := Url.kept_size l
  have HK : Hid (Url.path l = 47 :: Lib.join (Url.st (Url.pparts l) (Url.pparts l).length) [47] ∧ (Lib.join (Url.st (Url.pparts l) (Url.pparts l).length) [47]).length ≤ 6 * l.length + 1) := ⟨rfl, hks⟩
  have hpe := parts_eq l
  have partc : ∀ W : World, Calls Tryz.prog 102 #[.string (str (unhead l))] W _ := fun W => Rparts_any (unhead l) W (by omega)
  have HQ : Hid (∀ p ∈ Asc.split (Pct.turned (unhead l) 92 47) 47, p.length ≤ l.length) := fun p hp => Nat.le_trans (Asc.split_part 47 _ p hp) (by rw [Pct.turned_len]; omega)
  generalize Asc.split (Pct.turned (unhead l) 92 47) 47 = qs at hpe partc HQ
  generalize Url.pparts l = ps at hcnt hne HK hpe
  have hpl : ps.length = qs.length := by rw [hpe, List.length_map]
  have HPE : Hid _ := hpe
  clear hpe hks
  have HST : Hid _ := Url.st_len ps hne
  have hcases : l = [] ∨ (∃ c r, l = c :: r ∧ Url.slash c = true) ∨ (∃ c r, l = c :: r ∧ Url.slash c = false) := by
    cases l with
    | nil => exact .inl rfl
    | cons c r =>
      cases h : Url.slash c
      · exact .inr (.inr ⟨c, r, rfl, h⟩)
      · exact .inr (.inl ⟨c, r, rfl, h⟩)
  rcases hcases with hl | ⟨c, r, hl, hsl0⟩ | ⟨c, r, hl, hsl0⟩
  case inl =>
    have hu : unhead l = l := by rw [hl]; rfl
    have hl0 : l.length = 0 := by rw [hl]; rfl
    rw [hu] at partc
    have hn0 : ¬ (0 : Int) < (l.length : Int) := by omega
    clear hl hu
    go_enter Tryz.func73, Tryz.ntmps73
    go_upto_region 6 with (go_at_call 102; refine (partc _).mono ?_; rintro e w4 ⟨v, rfl, hown4, hb4⟩; have hrd := hown4.reads; clear hown4; obtain ⟨a1, c1, rfl⟩ := hrd.form)
    have HRD : Hid (ReadsTexts w4 (.slice a1 qs.length c1) qs) := hrd
    have hn4 := hb4.size
    clear hrd partc
    go_loopw [4, 5] (fun v i wr => ∃ k : Nat, k ≤ ps.length ∧ i = .int .i64 k ∧ OwnsTexts wr w4.heap.size v (Url.st ps k) ∧ Below w4.heap.size w4 wr) (fun _ i _ => ps.length - (intOf i).toNat)
    case atStart => exact ⟨0, Nat.zero_le _, rfl, by rw [Url.st_zero ps hne]; exact OwnsTexts.nil _ _, Below.refl _ _⟩
    case round =>
      obtain ⟨k, hk, rfl, hown, hbel⟩ := hrel
      by_cases hlt : k < qs.length
      · obtain ⟨q, hqq⟩ : ∃ q, qs[k]? = some q := ⟨_, List.getElem?_eq_getElem hlt⟩
        obtain ⟨b, o, rfl, hc, hbl, h1⟩ := ReadsTexts.at HRD.out hqq
        have g1 := (hbel.cell (p := ⟨b, o + k, none⟩) hbl).trans h1
        have hql := HQ.out q (List.mem_of_getElem? hqq)
        have hlt2 : k < ps.length := by omega
        have hst := Url.st_next ps k hlt2
        have hpk : ps[k] = Pct.mark Url.freeP q := by
          have e : ps[k]? = some (Pct.mark Url.freeP q) := by rw [HPE.out, List.getElem?_map, hqq]; rfl
          rw [List.getElem?_eq_getElem hlt2] at e
          exact Option.some.inj e
        rw [hpk] at hst
        have hml := Pct.mark_len Url.freeP q
        have mkc : ∀ W : World, Calls Tryz.prog 74 #[.string (str q), .string ⟨#[35, 63, 96, 123, 125]⟩] W _ := fun W => RMarkedP q W (by omega)
        have dcall : ∀ W : World, Calls Tryz.prog 103 #[.string (str (Pct.mark Url.freeP q))] W _ := fun W => Rdots_any _ W (by omega)
        generalize Pct.mark Url.freeP q = t at hst mkc dcall hml
        have hsl := HST.out k hk
        have hsz := hbel.size
        generalize hks : Url.st ps k = ks at hown hst hsl
        clear h1 hqq hpk hks
        by_cases hemp : ks = []
        · subst hemp
          rcases hown.2 with ⟨hv, _⟩ | ⟨g, cap, cur, hv, _⟩
          · subst hv
            rcases dots_cases t with hd | hd | hd
            · rw [pstep_zero hd, List.nil_append] at hst
              rw [hd] at dcall
              have HST2 : Hid _ := hst
              clear hst hd
              go_wp2_with (first
                | (go_at_call 74; refine (mkc _).mono ?_; rintro e w5 ⟨rfl, hb5⟩)
                | (go_at_call 103; refine (dcall _).mono ?_; rintro e w6 ⟨rfl, hb6⟩; have hown6 : OwnsTexts w6 w4.heap.size _ [] := ownsRow_below hown (bel hb5 hb6); have hb6' := hbel.trans ((bel hb5 hb6).mono hsz); have hsz6 := hb6'.size)
                | (at_builtin; refine wpList_append_own _ rfl _ _ 39 rfl w4.heap.size 9 i0 (.string ByteArray.empty) 1 16 Tryz.underlying39 hi hz0 hz1 hz2 rfl (by decide) _ _ _ rfl (World.ownsRow.alloc hown6 _) ⟨w6.heap.size, 0, none⟩ 1 1 [.string (str t)] rfl rfl (cell_one_new _ _ _) (fun x hx => by simp at hx; subst hx; rfl) (by unfold maxLen; omega) (by omega) (by simp; omega) ?_; intro v' w8 hown' hgrow hnil))
              go_roundw
              case rel => exact ⟨k + 1, by omega, by go_num, OwnsTexts.of (ts := []) HST2.out rfl hown', (hb6'.alloc hsz6 _).grown hgrow (by simp; omega) (fun q hq => (World.ownsRow.lt hown6 q hq).1)⟩
              case measure => simp [intOf]; omega
            · rw [pstep_one hd, List.nil_append] at hst
              rw [hd] at dcall
              clear hd
              by_cases hlast : k + 1 = ps.length
              · rw [decide_eq_true hlast, if_pos rfl] at hst
                have HST2 : Hid _ := hst
                have hq : ((k : Int) == (qs.length : Int) - 1) = true := by rw [beq_iff_eq]; omega
                clear hst
                have hlast2 : Hid _ := hlast
                clear hlast
                go_wp2_with (first
                  | (go_at_call 74; refine (mkc _).mono ?_; rintro e w5 ⟨rfl, hb5⟩)
                  | (go_at_call 103; refine (dcall _).mono ?_; rintro e w6 ⟨rfl, hb6⟩; have hown6 : OwnsTexts w6 w4.heap.size _ [] := ownsRow_below hown (bel hb5 hb6); have hb6' := hbel.trans ((bel hb5 hb6).mono hsz); have hsz6 := hb6'.size)
                  | (at_builtin; refine wpList_append_own _ rfl _ _ 39 rfl w4.heap.size 9 i0 (.string ByteArray.empty) 1 16 Tryz.underlying39 hi hz0 hz1 hz2 rfl (by decide) _ _ _ rfl (World.ownsRow.alloc hown6 _) ⟨w6.heap.size, 0, none⟩ 1 1 [.string (str [])] rfl rfl (cell_one_new _ _ _) (fun x hx => by simp at hx; subst hx; rfl) (by unfold maxLen; omega) (by omega) (by simp; omega) ?_; intro v' w8 hown' hgrow hnil))
                go_roundw
                case rel => exact ⟨k + 1, by omega, by go_num, OwnsTexts.of (ts := []) HST2.out rfl hown', (hb6'.alloc hsz6 _).grown hgrow (by simp; omega) (fun q hq => (World.ownsRow.lt hown6 q hq).1)⟩
                case measure => simp [intOf]; omega
              · rw [decide_eq_false hlast, if_neg (by decide)] at hst
                have HST2 : Hid _ := hst
                have hq : ((k : Int) == (qs.length : Int) - 1) = false := by rw [beq_eq_false_iff_ne]; omega
                clear hst
                go_wp2_with (first
                  | (go_at_call 74; refine (mkc _).mono ?_; rintro e w5 ⟨rfl, hb5⟩)
                  | (go_at_call 103; refine (dcall _).mono ?_; rintro e w6 ⟨rfl, hb6⟩; have hown6 : OwnsTexts w6 w4.heap.size _ [] := ownsRow_below hown (bel hb5 hb6); have hb6' := hbel.trans ((bel hb5 hb6).mono hsz); have hsz6 := hb6'.size))
                go_roundw
                case rel => exact ⟨k + 1, by omega, by go_num, by rw [HST2.out]; exact hown6, hb6'⟩
                case measure => simp [intOf]; omega
            · rw [pstep_two hd, List.dropLast_nil, List.nil_append] at hst
              rw [hd] at dcall
              clear hd
              by_cases hlast : k + 1 = ps.length
              · rw [decide_eq_true hlast, if_pos rfl] at hst
                have HST2 : Hid _ := hst
                have hq : ((k : Int) == (qs.length : Int) - 1) = true := by rw [beq_iff_eq]; omega
                clear hst
                have hlast2 : Hid _ := hlast
                clear hlast
                go_wp2_with (first
                  | (go_at_call 74; refine (mkc _).mono ?_; rintro e w5 ⟨rfl, hb5⟩)
                  | (go_at_call 103; refine (dcall _).mono ?_; rintro e w6 ⟨rfl, hb6⟩; have hown6 : OwnsTexts w6 w4.heap.size _ [] := ownsRow_below hown (bel hb5 hb6); have hb6' := hbel.trans ((bel hb5 hb6).mono hsz); have hsz6 := hb6'.size)
                  | (at_builtin; refine wpList_append_own _ rfl _ _ 39 rfl w4.heap.size 9 i0 (.string ByteArray.empty) 1 16 Tryz.underlying39 hi hz0 hz1 hz2 rfl (by decide) _ _ _ rfl (World.ownsRow.alloc hown6 _) ⟨w6.heap.size, 0, none⟩ 1 1 [.string (str [])] rfl rfl (cell_one_new _ _ _) (fun x hx => by simp at hx; subst hx; rfl) (by unfold maxLen; omega) (by omega) (by simp; omega) ?_; intro v' w8 hown' hgrow hnil))
                go_roundw
                case rel => exact ⟨k + 1, by omega, by go_num, OwnsTexts.of (ts := []) HST2.out rfl hown', (hb6'.alloc hsz6 _).grown hgrow (by simp; omega) (fun q hq => (World.ownsRow.lt hown6 q hq).1)⟩
                case measure => simp [intOf]; omega
              · rw [decide_eq_false hlast, if_neg (by decide)] at hst
                have HST2 : Hid _ := hst
                have hq : ((k : Int) == (qs.length : Int) - 1) = false := by rw [beq_eq_false_iff_ne]; omega
                clear hst
                go_wp2_with (first
                  | (go_at_call 74; refine (mkc _).mono ?_; rintro e w5 ⟨rfl, hb5⟩)
                  | (go_at_call 103; refine (dcall _).mono ?_; rintro e w6 ⟨rfl, hb6⟩; have hown6 : OwnsTexts w6 w4.heap.size _ [] := ownsRow_below hown (bel hb5 hb6); have hb6' := hbel.trans ((bel hb5 hb6).mono hsz); have hsz6 := hb6'.size))
                go_roundw
                case rel => exact ⟨k + 1, by omega, by go_num, by rw [HST2.out]; exact hown6, hb6'⟩
                case measure => simp [intOf]; omega
          · have hv' := hv
            subst hv
            obtain ⟨vc, hvc⟩ : ∃ vc, cap = vc := ⟨_, rfl⟩
            subst hvc
            have hvc0 : 0 ≤ cap := Nat.zero_le _
            rcases dots_cases t with hd | hd | hd
            · rw [pstep_zero hd] at hst
              rw [hd] at dcall
              have HST2 : Hid _ := hst
              clear hst hd hv'
              go_wp2_with (first
                | (go_at_call 74; refine (mkc _).mono ?_; rintro e w5 ⟨rfl, hb5⟩)
                | (go_at_call 103; refine (dcall _).mono ?_; rintro e w6 ⟨rfl, hb6⟩; have hown6 : OwnsTexts w6 w4.heap.size _ [] := ownsRow_below hown (bel hb5 hb6); have hb6' := hbel.trans ((bel hb5 hb6).mono hsz); have hsz6 := hb6'.size)
                | (at_builtin; refine wpList_append_own _ rfl _ _ 39 rfl w4.heap.size 9 i0 (.string ByteArray.empty) 1 16 Tryz.underlying39 hi hz0 hz1 hz2 rfl (by decide) _ _ _ rfl (World.ownsRow_nil _ _ _ _) ⟨g, 0, none⟩ [].length cap ([].map strV) rfl (by simp) (cells_clone hown6) (one_strV _) (by unfold maxLen; omega) (by omega) hsz6 ?_; intro v1 w7 hown1 hgrow1 hnil1; rw [Nat.zero_add, List.nil_append] at hown1; have hb7 := hb6'.grown hgrow1 hsz6 (fun q hq => by cases hq); have hsz7 := hb7.size)
                | (at_builtin; refine wpList_append_own _ rfl _ _ 39 rfl w4.heap.size 9 i0 (.string ByteArray.empty) 1 16 Tryz.underlying39 hi hz0 hz1 hz2 rfl (by decide) _ _ _ rfl (World.ownsRow.alloc hown1 _) ⟨w7.heap.size, 0, none⟩ 1 1 [.string (str t)] rfl rfl (cell_one_new _ _ _) (fun x hx => by simp at hx; subst hx; rfl) (by unfold maxLen; omega) (by omega) (by simp; omega) ?_; intro v' w8 hown' hgrow hnil))
              go_roundw
              case rel => exact ⟨k + 1, by omega, by go_num, OwnsTexts.of HST2.out rfl hown', (hb7.alloc hsz7 _).grown hgrow (by simp; omega) (fun q hq => (World.ownsRow.lt hown1 q hq).1)⟩
              case measure => simp [intOf]; omega
            · rw [pstep_one hd] at hst
              rw [hd] at dcall
              clear hd hv'
              by_cases hlast : k + 1 = ps.length
              · rw [decide_eq_true hlast, if_pos rfl] at hst
                have HST2 : Hid _ := hst
                have hq : ((k : Int) == (qs.length : Int) - 1) = true := by rw [beq_iff_eq]; omega
                clear hst
                have hlast2 : Hid _ := hlast
                clear hlast
                go_wp2_with (first
                  | (go_at_call 74; refine (mkc _).mono ?_; rintro e w5 ⟨rfl, hb5⟩)
                  | (go_at_call 103; refine (dcall _).mono ?_; rintro e w6 ⟨rfl, hb6⟩; have hown6 : OwnsTexts w6 w4.heap.size _ [] := ownsRow_below hown (bel hb5 hb6); have hb6' := hbel.trans ((bel hb5 hb6).mono hsz); have hsz6 := hb6'.size)
                  | (at_builtin; refine wpList_append_own _ rfl _ _ 39 rfl w4.heap.size 9 i0 (.string ByteArray.empty) 1 16 Tryz.underlying39 hi hz0 hz1 hz2 rfl (by decide) _ _ _ rfl (World.ownsRow_nil _ _ _ _) ⟨g, 0, none⟩ [].length cap ([].map strV) rfl (by simp) (cells_clone hown6) (one_strV _) (by unfold maxLen; omega) (by omega) hsz6 ?_; intro v1 w7 hown1 hgrow1 hnil1; rw [Nat.zero_add, List.nil_append] at hown1; have hb7 := hb6'.grown hgrow1 hsz6 (fun q hq => by cases hq); have hsz7 := hb7.size)
                  | (at_builtin; refine wpList_append_own _ rfl _ _ 39 rfl w4.heap.size 9 i0 (.string ByteArray.empty) 1 16 Tryz.underlying39 hi hz0 hz1 hz2 rfl (by decide) _ _ _ rfl (World.ownsRow.alloc hown1 _) ⟨w7.heap.size, 0, none⟩ 1 1 [.string (str [])] rfl rfl (cell_one_new _ _ _) (fun x hx => by simp at hx; subst hx; rfl) (by unfold maxLen; omega) (by omega) (by simp; omega) ?_; intro v' w8 hown' hgrow hnil))
                go_roundw
                case rel => exact ⟨k + 1, by omega, by go_num, OwnsTexts.of HST2.out rfl hown', (hb7.alloc hsz7 _).grown hgrow (by simp; omega) (fun q hq => (World.ownsRow.lt hown1 q hq).1)⟩
                case measure => simp [intOf]; omega
              · rw [decide_eq_false hlast, if_neg (by decide), List.append_nil] at hst
                have HST2 : Hid _ := hst
                have hq : ((k : Int) == (qs.length : Int) - 1) = false := by rw [beq_eq_false_iff_ne]; omega
                clear hst
                go_wp2_with (first
                  | (go_at_call 74; refine (mkc _).mono ?_; rintro e w5 ⟨rfl, hb5⟩)
                  | (go_at_call 103; refine (dcall _).mono ?_; rintro e w6 ⟨rfl, hb6⟩; have hown6 : OwnsTexts w6 w4.heap.size _ [] := ownsRow_below hown (bel hb5 hb6); have hb6' := hbel.trans ((bel hb5 hb6).mono hsz); have hsz6 := hb6'.size))
                go_roundw
                case rel => exact ⟨k + 1, by omega, by go_num, by rw [HST2.out]; exact hown6, hb6'⟩
                case measure => simp [intOf]; omega
            · rw [pstep_two hd, List.dropLast_nil] at hst
              rw [hd] at dcall
              clear hd hv'
              by_cases hlast : k + 1 = ps.length
              · rw [decide_eq_true hlast, if_pos rfl] at hst
                have HST2 : Hid _ := hst
                have hq : ((k : Int) == (qs.length : Int) - 1) = true := by rw [beq_iff_eq]; omega
                clear hst
                have hlast2 : Hid _ := hlast
                clear hlast
                go_wp2_with (first
                  | (go_at_call 74; refine (mkc _).mono ?_; rintro e w5 ⟨rfl, hb5⟩)
                  | (go_at_call 103; refine (dcall _).mono ?_; rintro e w6 ⟨rfl, hb6⟩; have hown6 : OwnsTexts w6 w4.heap.size _ [] := ownsRow_below hown (bel hb5 hb6); have hb6' := hbel.trans ((bel hb5 hb6).mono hsz); have hsz6 := hb6'.size)
                  | (at_builtin; refine wpList_append_own _ rfl _ _ 39 rfl w4.heap.size 9 i0 (.string ByteArray.empty) 1 16 Tryz.underlying39 hi hz0 hz1 hz2 rfl (by decide) _ _ _ rfl (World.ownsRow_nil _ _ _ _) ⟨g, 0, none⟩ [].length cap ([].map strV) rfl (by simp) (cells_clone hown6) (one_strV _) (by unfold maxLen; omega) (by omega) hsz6 ?_; intro v1 w7 hown1 hgrow1 hnil1; rw [Nat.zero_add, List.nil_append] at hown1; have hb7 := hb6'.grown hgrow1 hsz6 (fun q hq => by cases hq); have hsz7 := hb7.size)
                  | (at_builtin; refine wpList_append_own _ rfl _ _ 39 rfl w4.heap.size 9 i0 (.string ByteArray.empty) 1 16 Tryz.underlying39 hi hz0 hz1 hz2 rfl (by decide) _ _ _ rfl (World.ownsRow.alloc hown1 _) ⟨w7.heap.size, 0, none⟩ 1 1 [.string (str [])] rfl rfl (cell_one_new _ _ _) (fun x hx => by simp at hx; subst hx; rfl) (by unfold maxLen; omega) (by omega) (by simp; omega) ?_; intro v' w8 hown' hgrow hnil))
                go_roundw
                case rel => exact ⟨k + 1, by omega, by go_num, OwnsTexts.of HST2.out rfl hown', (hb7.alloc hsz7 _).grown hgrow (by simp; omega) (fun q hq => (World.ownsRow.lt hown1 q hq).1)⟩
                case measure => simp [intOf]; omega
              · rw [decide_eq_false hlast, if_neg (by decide), List.append_nil] at hst
                have HST2 : Hid _ := hst
                have hq : ((k : Int) == (qs.length : Int) - 1) = false := by rw [beq_eq_false_iff_ne]; omega
                clear hst
                go_wp2_with (first
                  | (go_at_call 74; refine (mkc _).mono ?_; rintro e w5 ⟨rfl, hb5⟩)
                  | (go_at_call 103; refine (dcall _).mono ?_; rintro e w6 ⟨rfl, hb6⟩; have hown6 : OwnsTexts w6 w4.heap.size _ [] := ownsRow_below hown (bel hb5 hb6); have hb6' := hbel.trans ((bel hb5 hb6).mono hsz); have hsz6 := hb6'.size))
                go_roundw
                case rel => exact ⟨k + 1, by omega, by go_num, by rw [HST2.out]; exact hown6, hb6'⟩
                case measure => simp [intOf]; omega
        · obtain ⟨va, vc, rfl⟩ := hown.form
          obtain ⟨g, rfl, hvc⟩ := hown.place hemp
          rcases dots_cases t with hd | hd | hd
          · rw [pstep_zero hd] at hst
            rw [hd] at dcall
            have HST2 : Hid _ := hst
            clear hst hd hemp
            go_wp2_with (first
              | (go_at_call 74; refine (mkc _).mono ?_; rintro e w5 ⟨rfl, hb5⟩)
              | (go_at_call 103; refine (dcall _).mono ?_; rintro e w6 ⟨rfl, hb6⟩; have hown6 : OwnsTexts w6 w4.heap.size _ ks := ownsRow_below hown (bel hb5 hb6); have hb6' := hbel.trans ((bel hb5 hb6).mono hsz); have hsz6 := hb6'.size)
              | (at_builtin; refine wpList_append_own _ rfl _ _ 39 rfl w4.heap.size 9 i0 (.string ByteArray.empty) 1 16 Tryz.underlying39 hi hz0 hz1 hz2 rfl (by decide) _ _ _ rfl (World.ownsRow_nil _ _ _ _) ⟨g, 0, none⟩ ks.length vc (ks.map strV) rfl (by simp) (cells_clone hown6) (one_strV _) (by unfold maxLen; omega) (by omega) hsz6 ?_; intro v1 w7 hown1 hgrow1 hnil1; rw [Nat.zero_add, List.nil_append] at hown1; have hb7 := hb6'.grown hgrow1 hsz6 (fun q hq => by cases hq); have hsz7 := hb7.size)
              | (at_builtin; refine wpList_append_own _ rfl _ _ 39 rfl w4.heap.size 9 i0 (.string ByteArray.empty) 1 16 Tryz.underlying39 hi hz0 hz1 hz2 rfl (by decide) _ _ _ rfl (World.ownsRow.alloc hown1 _) ⟨w7.heap.size, 0, none⟩ 1 1 [.string (str t)] rfl rfl (cell_one_new _ _ _) (fun x hx => by simp at hx; subst hx; rfl) (by unfold maxLen; omega) (by omega) (by simp; omega) ?_; intro v' w8 hown' hgrow hnil))
            go_roundw
            case rel => exact ⟨k + 1, by omega, by go_num, OwnsTexts.of HST2.out rfl hown', (hb7.alloc hsz7 _).grown hgrow (by simp; omega) (fun q hq => (World.ownsRow.lt hown1 q hq).1)⟩
            case measure => simp [intOf]; omega
          · rw [pstep_one hd] at hst
            rw [hd] at dcall
            clear hd hemp
            by_cases hlast : k + 1 = ps.length
            · rw [decide_eq_true hlast, if_pos rfl] at hst
              have HST2 : Hid _ := hst
              have hq : ((k : Int) == (qs.length : Int) - 1) = true := by rw [beq_iff_eq]; omega
              clear hst
              have hlast2 : Hid _ := hlast
              clear hlast
              go_wp2_with (first
                | (go_at_call 74; refine (mkc _).mono ?_; rintro e w5 ⟨rfl, hb5⟩)
                | (go_at_call 103; refine (dcall _).mono ?_; rintro e w6 ⟨rfl, hb6⟩; have hown6 : OwnsTexts w6 w4.heap.size _ ks := ownsRow_below hown (bel hb5 hb6); have hb6' := hbel.trans ((bel hb5 hb6).mono hsz); have hsz6 := hb6'.size)
                | (at_builtin; refine wpList_append_own _ rfl _ _ 39 rfl w4.heap.size 9 i0 (.string ByteArray.empty) 1 16 Tryz.underlying39 hi hz0 hz1 hz2 rfl (by decide) _ _ _ rfl (World.ownsRow_nil _ _ _ _) ⟨g, 0, none⟩ ks.length vc (ks.map strV) rfl (by simp) (cells_clone hown6) (one_strV _) (by unfold maxLen; omega) (by omega) hsz6 ?_; intro v1 w7 hown1 hgrow1 hnil1; rw [Nat.zero_add, List.nil_append] at hown1; have hb7 := hb6'.grown hgrow1 hsz6 (fun q hq => by cases hq); have hsz7 := hb7.size)
                | (at_builtin; refine wpList_append_own _ rfl _ _ 39 rfl w4.heap.size 9 i0 (.string ByteArray.empty) 1 16 Tryz.underlying39 hi hz0 hz1 hz2 rfl (by decide) _ _ _ rfl (World.ownsRow.alloc hown1 _) ⟨w7.heap.size, 0, none⟩ 1 1 [.string (str [])] rfl rfl (cell_one_new _ _ _) (fun x hx => by simp at hx; subst hx; rfl) (by unfold maxLen; omega) (by omega) (by simp; omega) ?_; intro v' w8 hown' hgrow hnil))
              go_roundw
              case rel => exact ⟨k + 1, by omega, by go_num, OwnsTexts.of HST2.out rfl hown', (hb7.alloc hsz7 _).grown hgrow (by simp; omega) (fun q hq => (World.ownsRow.lt hown1 q hq).1)⟩
              case measure => simp [intOf]; omega
            · rw [decide_eq_false hlast, if_neg (by decide), List.append_nil] at hst
              have HST2 : Hid _ := hst
              have hq : ((k : Int) == (qs.length : Int) - 1) = false := by rw [beq_eq_false_iff_ne]; omega
              clear hst
              go_wp2_with (first
                | (go_at_call 74; refine (mkc _).mono ?_; rintro e w5 ⟨rfl, hb5⟩)
                | (go_at_call 103; refine (dcall _).mono ?_; rintro e w6 ⟨rfl, hb6⟩; have hown6 : OwnsTexts w6 w4.heap.size _ ks := ownsRow_below hown (bel hb5 hb6); have hb6' := hbel.trans ((bel hb5 hb6).mono hsz); have hsz6 := hb6'.size))
              go_roundw
              case rel => exact ⟨k + 1, by omega, by go_num, by rw [HST2.out]; exact hown6, hb6'⟩
              case measure => simp [intOf]; omega
          · rw [pstep_two hd] at hst
            rw [hd] at dcall
            clear hd
            obtain ⟨n, hn⟩ : ∃ n, ks.length = n + 1 := ⟨ks.length - 1, by have := List.length_pos_iff.2 hemp; omega⟩
            rw [hn] at hown hvc ⊢
            have hcut := hown.cut hn
            have hnc : (n : Int) ≤ (vc : Int) := by omega
            have hdl : ks.dropLast.length = n := by rw [List.length_dropLast]; omega
            generalize hkd : ks.dropLast = kd at hst hcut hdl
            clear hkd hemp hown
            subst hdl
            by_cases hlast : k + 1 = ps.length
            · rw [decide_eq_true hlast, if_pos rfl] at hst
              have HST2 : Hid _ := hst
              have hq : ((k : Int) == (qs.length : Int) - 1) = true := by rw [beq_iff_eq]; omega
              clear hst
              have hlast2 : Hid _ := hlast
              clear hlast
              go_wp2_with (first
                | (go_at_call 74; refine (mkc _).mono ?_; rintro e w5 ⟨rfl, hb5⟩)
                | (go_at_call 103; refine (dcall _).mono ?_; rintro e w6 ⟨rfl, hb6⟩; have hown6 : OwnsTexts w6 w4.heap.size _ kd := ownsRow_below hcut (bel hb5 hb6); have hb6' := hbel.trans ((bel hb5 hb6).mono hsz); have hsz6 := hb6'.size)
                | (at_builtin; refine wpList_append_own _ rfl _ _ 39 rfl w4.heap.size 9 i0 (.string ByteArray.empty) 1 16 Tryz.underlying39 hi hz0 hz1 hz2 rfl (by decide) _ _ _ rfl (World.ownsRow_nil _ _ _ _) ⟨g, 0, none⟩ kd.length vc (kd.map strV) rfl (by simp) (cells_clone hown6) (one_strV _) (by unfold maxLen; omega) (by omega) hsz6 ?_; intro v1 w7 hown1 hgrow1 hnil1; rw [Nat.zero_add, List.nil_append] at hown1; have hb7 := hb6'.grown hgrow1 hsz6 (fun q hq => by cases hq); have hsz7 := hb7.size)
                | (at_builtin; refine wpList_append_own _ rfl _ _ 39 rfl w4.heap.size 9 i0 (.string ByteArray.empty) 1 16 Tryz.underlying39 hi hz0 hz1 hz2 rfl (by decide) _ _ _ rfl (World.ownsRow.alloc hown1 _) ⟨w7.heap.size, 0, none⟩ 1 1 [.string (str [])] rfl rfl (cell_one_new _ _ _) (fun x hx => by simp at hx; subst hx; rfl) (by unfold maxLen; omega) (by omega) (by simp; omega) ?_; intro v' w8 hown' hgrow hnil))
              go_roundw
              case rel => exact ⟨k + 1, by omega, by go_num, OwnsTexts.of HST2.out rfl hown', (hb7.alloc hsz7 _).grown hgrow (by simp; omega) (fun q hq => (World.ownsRow.lt hown1 q hq).1)⟩
              case measure => simp [intOf]; omega
            · rw [decide_eq_false hlast, if_neg (by decide), List.append_nil] at hst
              have HST2 : Hid _ := hst
              have hq : ((k : Int) == (qs.length : Int) - 1) = false := by rw [beq_eq_false_iff_ne]; omega
              clear hst
              go_wp2_with (first
                | (go_at_call 74; refine (mkc _).mono ?_; rintro e w5 ⟨rfl, hb5⟩)
                | (go_at_call 103; refine (dcall _).mono ?_; rintro e w6 ⟨rfl, hb6⟩; have hown6 : OwnsTexts w6 w4.heap.size _ kd := ownsRow_below hcut (bel hb5 hb6); have hb6' := hbel.trans ((bel hb5 hb6).mono hsz); have hsz6 := hb6'.size))
              go_roundw
              case rel => exact ⟨k + 1, by omega, by go_num, by rw [HST2.out]; exact hown6, hb6'⟩
              case measure => simp [intOf]; omega
      · obtain rfl : k = ps.length := by omega
        have hsl := HST.out _ (Nat.le_refl _)
        generalize Url.st ps ps.length = ks at hown HK hsl
        have hrd := hown.reads
        have hkl := HK.out.2
        have joinc : Calls Tryz.prog 104 #[.string ⟨#[47]⟩, _] wr fun e w' => e = .returned (.string (str (Lib.join ks [47]))) ∧ w' = wr := RJoin_slash _ ks wr hrd (by omega) (by omega)
        have hadd : (⟨#[47]⟩ : ByteArray) ++ str (Lib.join ks [47]) = str (Url.path l) := by
          rw [HK.out.1]
          exact str_add [47] _
        have hjs := str_size (Lib.join ks [47])
        go_wp2_with (go_at_call 104; refine joinc.mono ?_; rintro e w5 ⟨rfl, hw5⟩; rw [hw5]; clear hw5)
        go_ret
        exact ⟨rfl, hb4.trans (hbel.mono hn4)⟩
  case inr.inl =>
    have hu : unhead l = r := by rw [hl]; exact unhead_yes r hsl0
    have hl1 : l.length = r.length + 1 := by rw [hl]; rfl
    have hat0 : ∀ h : 0 < (str l).size, (str l)[0]'h = c := by subst hl; exact fun _ => rfl
    have hext : (str l).extract 1 l.length = str r := by rw [str_from, hl]; rfl
    rw [hu] at partc
    have hn0 : (0 : Int) < (l.length : Int) := by omega
    have hn1 : (1 : Int) ≤ (l.length : Int) := by omega
    clear hl hu hl1
    go_enter Tryz.func73, Tryz.ntmps73
    go_upto_region 6 with (first
      | (go_at_call 38; refine (RIsSlash_any c _).mono ?_; rintro e w1 ⟨rfl, hw1⟩; rw [hw1, hsl0]; clear hw1)
      | (go_at_call 102; refine (partc _).mono ?_; rintro e w4 ⟨v, rfl, hown4, hb4⟩; have hrd := hown4.reads; clear hown4; obtain ⟨a1, c1, rfl⟩ := hrd.form))
    have HRD : Hid (ReadsTexts w4 (.slice a1 qs.length c1) qs) := hrd
    have hn4 := hb4.size
    clear hrd partc
    go_loopw [4, 5] (fun v i wr => ∃ k : Nat, k ≤ ps.length ∧ i = .int .i64 k ∧ OwnsTexts wr w4.heap.size v (Url.st ps k) ∧ Below w4.heap.size w4 wr) (fun _ i _ => ps.length - (intOf i).toNat)
    case atStart => exact ⟨0, Nat.zero_le _, rfl, by rw [Url.st_zero ps hne]; exact OwnsTexts.nil _ _, Below.refl _ _⟩
    case round =>
      obtain ⟨k, hk, rfl, hown, hbel⟩ := hrel
      by_cases hlt : k < qs.length
      · obtain ⟨q, hqq⟩ : ∃ q, qs[k]? = some q := ⟨_, List.getElem?_eq_getElem hlt⟩
        obtain ⟨b, o, rfl, hc, hbl, h1⟩ := ReadsTexts.at HRD.out hqq
        have g1 := (hbel.cell (p := ⟨b, o + k, none⟩) hbl).trans h1
        have hql := HQ.out q (List.mem_of_getElem? hqq)
        have hlt2 : k < ps.length := by omega
        have hst := Url.st_next ps k hlt2
        have hpk : ps[k] = Pct.mark Url.freeP q := by
          have e : ps[k]? = some (Pct.mark Url.freeP q) := by rw [HPE.out, List.getElem?_map, hqq]; rfl
          rw [List.getElem?_eq_getElem hlt2] at e
          exact Option.some.inj e
        rw [hpk] at hst
        have hml := Pct.mark_len Url.freeP q
        have mkc : ∀ W : World, Calls Tryz.prog 74 #[.string (str q), .string ⟨#[35, 63, 96, 123, 125]⟩] W _ := fun W => RMarkedP q W (by omega)
        have dcall : ∀ W : World, Calls Tryz.prog 103 #[.string (str (Pct.mark Url.freeP q))] W _ := fun W => Rdots_any _ W (by omega)
        generalize Pct.mark Url.freeP q = t at hst mkc dcall hml
        have hsl := HST.out k hk
        have hsz := hbel.size
        generalize hks : Url.st ps k = ks at hown hst hsl
        clear h1 hqq hpk hks
        by_cases hemp : ks = []
        · subst hemp
          rcases hown.2 with ⟨hv, _⟩ | ⟨g, cap, cur, hv, _⟩
          · subst hv
            rcases dots_cases t with hd | hd | hd
            · rw [pstep_zero hd, List.nil_append] at hst
              rw [hd] at dcall
              have HST2 : Hid _ := hst
              clear hst hd
              go_wp2_with (first
                | (go_at_call 74; refine (mkc _).mono ?_; rintro e w5 ⟨rfl, hb5⟩)
                | (go_at_call 103; refine (dcall _).mono ?_; rintro e w6 ⟨rfl, hb6⟩; have hown6 : OwnsTexts w6 w4.heap.size _ [] := ownsRow_below hown (bel hb5 hb6); have hb6' := hbel.trans ((bel hb5 hb6).mono hsz); have hsz6 := hb6'.size)
                | (at_builtin; refine wpList_append_own _ rfl _ _ 39 rfl w4.heap.size 9 i0 (.string ByteArray.empty) 1 16 Tryz.underlying39 hi hz0 hz1 hz2 rfl (by decide) _ _ _ rfl (World.ownsRow.alloc hown6 _) ⟨w6.heap.size, 0, none⟩ 1 1 [.string (str t)] rfl rfl (cell_one_new _ _ _) (fun x hx => by simp at hx; subst hx; rfl) (by unfold maxLen; omega) (by omega) (by simp; omega) ?_; intro v' w8 hown' hgrow hnil))
              go_roundw
              case rel => exact ⟨k + 1, by omega, by go_num, OwnsTexts.of (ts := []) HST2.out rfl hown', (hb6'.alloc hsz6 _).grown hgrow (by simp; omega) (fun q hq => (World.ownsRow.lt hown6 q hq).1)⟩
              case measure => simp [intOf]; omega
            · rw [pstep_one hd, List.nil_append] at hst
              rw [hd] at dcall
              clear hd
              by_cases hlast : k + 1 = ps.length
              · rw [decide_eq_true hlast, if_pos rfl] at hst
                have HST2 : Hid _ := hst
                have hq : ((k : Int) == (qs.length : Int) - 1) = true := by rw [beq_iff_eq]; omega
                clear hst
                have hlast2 : Hid _ := hlast
                clear hlast
                go_wp2_with (first
                  | (go_at_call 74; refine (mkc _).mono ?_; rintro e w5 ⟨rfl, hb5⟩)
                  | (go_at_call 103; refine (dcall _).mono ?_; rintro e w6 ⟨rfl, hb6⟩; have hown6 : OwnsTexts w6 w4.heap.size _ [] := ownsRow_below hown (bel hb5 hb6); have hb6' := hbel.trans ((bel hb5 hb6).mono hsz); have hsz6 := hb6'.size)
                  | (at_builtin; refine wpList_append_own _ rfl _ _ 39 rfl w4.heap.size 9 i0 (.string ByteArray.empty) 1 16 Tryz.underlying39 hi hz0 hz1 hz2 rfl (by decide) _ _ _ rfl (World.ownsRow.alloc hown6 _) ⟨w6.heap.size, 0, none⟩ 1 1 [.string (str [])] rfl rfl (cell_one_new _ _ _) (fun x hx => by simp at hx; subst hx; rfl) (by unfold maxLen; omega) (by omega) (by simp; omega) ?_; intro v' w8 hown' hgrow hnil))
                go_roundw
                case rel => exact ⟨k + 1, by omega, by go_num, OwnsTexts.of (ts := []) HST2.out rfl hown', (hb6'.alloc hsz6 _).grown hgrow (by simp; omega) (fun q hq => (World.ownsRow.lt hown6 q hq).1)⟩
                case measure => simp [intOf]; omega
              · rw [decide_eq_false hlast, if_neg (by decide)] at hst
                have HST2 : Hid _ := hst
                have hq : ((k : Int) == (qs.length : Int) - 1) = false := by rw [beq_eq_false_iff_ne]; omega
                clear hst
                go_wp2_with (first
                  | (go_at_call 74; refine (mkc _).mono ?_; rintro e w5 ⟨rfl, hb5⟩)
                  | (go_at_call 103; refine (dcall _).mono ?_; rintro e w6 ⟨rfl, hb6⟩; have hown6 : OwnsTexts w6 w4.heap.size _ [] := ownsRow_below hown (bel hb5 hb6); have hb6' := hbel.trans ((bel hb5 hb6).mono hsz); have hsz6 := hb6'.size))
                go_roundw
                case rel => exact ⟨k + 1, by omega, by go_num, by rw [HST2.out]; exact hown6, hb6'⟩
                case measure => simp [intOf]; omega
            · rw [pstep_two hd, List.dropLast_nil, List.nil_append] at hst
              rw [hd] at dcall
              clear hd
              by_cases hlast : k + 1 = ps.length
              · rw [decide_eq_true hlast, if_pos rfl] at hst
                have HST2 : Hid _ := hst
                have hq : ((k : Int) == (qs.length : Int) - 1) = true := by rw [beq_iff_eq]; omega
                clear hst
                have hlast2 : Hid _ := hlast
                clear hlast
                go_wp2_with (first
                  | (go_at_call 74; refine (mkc _).mono ?_; rintro e w5 ⟨rfl, hb5⟩)
                  | (go_at_call 103; refine (dcall _).mono ?_; rintro e w6 ⟨rfl, hb6⟩; have hown6 : OwnsTexts w6 w4.heap.size _ [] := ownsRow_below hown (bel hb5 hb6); have hb6' := hbel.trans ((bel hb5 hb6).mono hsz); have hsz6 := hb6'.size)
                  | (at_builtin; refine wpList_append_own _ rfl _ _ 39 rfl w4.heap.size 9 i0 (.string ByteArray.empty) 1 16 Tryz.underlying39 hi hz0 hz1 hz2 rfl (by decide) _ _ _ rfl (World.ownsRow.alloc hown6 _) ⟨w6.heap.size, 0, none⟩ 1 1 [.string (str [])] rfl rfl (cell_one_new _ _ _) (fun x hx => by simp at hx; subst hx; rfl) (by unfold maxLen; omega) (by omega) (by simp; omega) ?_; intro v' w8 hown' hgrow hnil))
                go_roundw
                case rel => exact ⟨k + 1, by omega, by go_num, OwnsTexts.of (ts := []) HST2.out rfl hown', (hb6'.alloc hsz6 _).grown hgrow (by simp; omega) (fun q hq => (World.ownsRow.lt hown6 q hq).1)⟩
                case measure => simp [intOf]; omega
              · rw [decide_eq_false hlast, if_neg (by decide)] at hst
                have HST2 : Hid _ := hst
                have hq : ((k : Int) == (qs.length : Int) - 1) = false := by rw [beq_eq_false_iff_ne]; omega
                clear hst
                go_wp2_with (first
                  | (go_at_call 74; refine (mkc _).mono ?_; rintro e w5 ⟨rfl, hb5⟩)
                  | (go_at_call 103; refine (dcall _).mono ?_; rintro e w6 ⟨rfl, hb6⟩; have hown6 : OwnsTexts w6 w4.heap.size _ [] := ownsRow_below hown (bel hb5 hb6); have hb6' := hbel.trans ((bel hb5 hb6).mono hsz); have hsz6 := hb6'.size))
                go_roundw
                case rel => exact ⟨k + 1, by omega, by go_num, by rw [HST2.out]; exact hown6, hb6'⟩
                case measure => simp [intOf]; omega
          · have hv' := hv
            subst hv
            obtain ⟨vc, hvc⟩ : ∃ vc, cap = vc := ⟨_, rfl⟩
            subst hvc
            have hvc0 : 0 ≤ cap := Nat.zero_le _
            rcases dots_cases t with hd | hd | hd
            · rw [pstep_zero hd] at hst
              rw [hd] at dcall
              have HST2 : Hid _ := hst
              clear hst hd hv'
              go_wp2_with (first
                | (go_at_call 74; refine (mkc _).mono ?_; rintro e w5 ⟨rfl, hb5⟩)
                | (go_at_call 103; refine (dcall _).mono ?_; rintro e w6 ⟨rfl, hb6⟩; have hown6 : OwnsTexts w6 w4.heap.size _ [] := ownsRow_below hown (bel hb5 hb6); have hb6' := hbel.trans ((bel hb5 hb6).mono hsz); have hsz6 := hb6'.size)
                | (at_builtin; refine wpList_append_own _ rfl _ _ 39 rfl w4.heap.size 9 i0 (.string ByteArray.empty) 1 16 Tryz.underlying39 hi hz0 hz1 hz2 rfl (by decide) _ _ _ rfl (World.ownsRow_nil _ _ _ _) ⟨g, 0, none⟩ [].length cap ([].map strV) rfl (by simp) (cells_clone hown6) (one_strV _) (by unfold maxLen; omega) (by omega) hsz6 ?_; intro v1 w7 hown1 hgrow1 hnil1; rw [Nat.zero_add, List.nil_append] at hown1; have hb7 := hb6'.grown hgrow1 hsz6 (fun q hq => by cases hq); have hsz7 := hb7.size)
                | (at_builtin; refine wpList_append_own _ rfl _ _ 39 rfl w4.heap.size 9 i0 (.string ByteArray.empty) 1 16 Tryz.underlying39 hi hz0 hz1 hz2 rfl (by decide) _ _ _ rfl (World.ownsRow.alloc hown1 _) ⟨w7.heap.size, 0, none⟩ 1 1 [.string (str t)] rfl rfl (cell_one_new _ _ _) (fun x hx => by simp at hx; subst hx; rfl) (by unfold maxLen; omega) (by omega) (by simp; omega) ?_; intro v' w8 hown' hgrow hnil))
              go_roundw
              case rel => exact ⟨k + 1, by omega, by go_num, OwnsTexts.of HST2.out rfl hown', (hb7.alloc hsz7 _).grown hgrow (by simp; omega) (fun q hq => (World.ownsRow.lt hown1 q hq).1)⟩
              case measure => simp [intOf]; omega
            · rw [pstep_one hd] at hst
              rw [hd] at dcall
              clear hd hv'
              by_cases hlast : k + 1 = ps.length
              · rw [decide_eq_true hlast, if_pos rfl] at hst
                have HST2 : Hid _ := hst
                have hq : ((k : Int) == (qs.length : Int) - 1) = true := by rw [beq_iff_eq]; omega
                clear hst
                have hlast2 : Hid _ := hlast
                clear hlast
                go_wp2_with (first
                  | (go_at_call 74; refine (mkc _).mono ?_; rintro e w5 ⟨rfl, hb5⟩)
                  | (go_at_call 103; refine (dcall _).mono ?_; rintro e w6 ⟨rfl, hb6⟩; have hown6 : OwnsTexts w6 w4.heap.size _ [] := ownsRow_below hown (bel hb5 hb6); have hb6' := hbel.trans ((bel hb5 hb6).mono hsz); have hsz6 := hb6'.size)
                  | (at_builtin; refine wpList_append_own _ rfl _ _ 39 rfl w4.heap.size 9 i0 (.string ByteArray.empty) 1 16 Tryz.underlying39 hi hz0 hz1 hz2 rfl (by decide) _ _ _ rfl (World.ownsRow_nil _ _ _ _) ⟨g, 0, none⟩ [].length cap ([].map strV) rfl (by simp) (cells_clone hown6) (one_strV _) (by unfold maxLen; omega) (by omega) hsz6 ?_; intro v1 w7 hown1 hgrow1 hnil1; rw [Nat.zero_add, List.nil_append] at hown1; have hb7 := hb6'.grown hgrow1 hsz6 (fun q hq => by cases hq); have hsz7 := hb7.size)
                  | (at_builtin; refine wpList_append_own _ rfl _ _ 39 rfl w4.heap.size 9 i0 (.string ByteArray.empty) 1 16 Tryz.underlying39 hi hz0 hz1 hz2 rfl (by decide) _ _ _ rfl (World.ownsRow.alloc hown1 _) ⟨w7.heap.size, 0, none⟩ 1 1 [.string (str [])] rfl rfl (cell_one_new _ _ _) (fun x hx => by simp at hx; subst hx; rfl) (by unfold maxLen; omega) (by omega) (by simp; omega) ?_; intro v' w8 hown' hgrow hnil))
                go_roundw
                case rel => exact ⟨k + 1, by omega, by go_num, OwnsTexts.of HST2.out rfl hown', (hb7.alloc hsz7 _).grown hgrow (by simp; omega) (fun q hq => (World.ownsRow.lt hown1 q hq).1)⟩
                case measure => simp [intOf]; omega
              · rw [decide_eq_false hlast, if_neg (by decide), List.append_nil] at hst
                have HST2 : Hid _ := hst
                have hq : ((k : Int) == (qs.length : Int) - 1) = false := by rw [beq_eq_false_iff_ne]; omega
                clear hst
                go_wp2_with (first
                  | (go_at_call 74; refine (mkc _).mono ?_; rintro e w5 ⟨rfl, hb5⟩)
                  | (go_at_call 103; refine (dcall _).mono ?_; rintro e w6 ⟨rfl, hb6⟩; have hown6 : OwnsTexts w6 w4.heap.size _ [] := ownsRow_below hown (bel hb5 hb6); have hb6' := hbel.trans ((bel hb5 hb6).mono hsz); have hsz6 := hb6'.size))
                go_roundw
                case rel => exact ⟨k + 1, by omega, by go_num, by rw [HST2.out]; exact hown6, hb6'⟩
                case measure => simp [intOf]; omega
            · rw [pstep_two hd, List.dropLast_nil] at hst
              rw [hd] at dcall
              clear hd hv'
              by_cases hlast : k + 1 = ps.length
              · rw [decide_eq_true hlast, if_pos rfl] at hst
                have HST2 : Hid _ := hst
                have hq : ((k : Int) == (qs.length : Int) - 1) = true := by rw [beq_iff_eq]; omega
                clear hst
                have hlast2 : Hid _ := hlast
                clear hlast
                go_wp2_with (first
                  | (go_at_call 74; refine (mkc _).mono ?_; rintro e w5 ⟨rfl, hb5⟩)
                  | (go_at_call 103; refine (dcall _).mono ?_; rintro e w6 ⟨rfl, hb6⟩; have hown6 : OwnsTexts w6 w4.heap.size _ [] := ownsRow_below hown (bel hb5 hb6); have hb6' := hbel.trans ((bel hb5 hb6).mono hsz); have hsz6 := hb6'.size)
                  | (at_builtin; refine wpList_append_own _ rfl _ _ 39 rfl w4.heap.size 9 i0 (.string ByteArray.empty) 1 16 Tryz.underlying39 hi hz0 hz1 hz2 rfl (by decide) _ _ _ rfl (World.ownsRow_nil _ _ _ _) ⟨g, 0, none⟩ [].length cap ([].map strV) rfl (by simp) (cells_clone hown6) (one_strV _) (by unfold maxLen; omega) (by omega) hsz6 ?_; intro v1 w7 hown1 hgrow1 hnil1; rw [Nat.zero_add, List.nil_append] at hown1; have hb7 := hb6'.grown hgrow1 hsz6 (fun q hq => by cases hq); have hsz7 := hb7.size)
                  | (at_builtin; refine wpList_append_own _ rfl _ _ 39 rfl w4.heap.size 9 i0 (.string ByteArray.empty) 1 16 Tryz.underlying39 hi hz0 hz1 hz2 rfl (by decide) _ _ _ rfl (World.ownsRow.alloc hown1 _) ⟨w7.heap.size, 0, none⟩ 1 1 [.string (str [])] rfl rfl (cell_one_new _ _ _) (fun x hx => by simp at hx; subst hx; rfl) (by unfold maxLen; omega) (by omega) (by simp; omega) ?_; intro v' w8 hown' hgrow hnil))
                go_roundw
                case rel => exact ⟨k + 1, by omega, by go_num, OwnsTexts.of HST2.out rfl hown', (hb7.alloc hsz7 _).grown hgrow (by simp; omega) (fun q hq => (World.ownsRow.lt hown1 q hq).1)⟩
                case measure => simp [intOf]; omega
              · rw [decide_eq_false hlast, if_neg (by decide), List.append_nil] at hst
                have HST2 : Hid _ := hst
                have hq : ((k : Int) == (qs.length : Int) - 1) = false := by rw [beq_eq_false_iff_ne]; omega
                clear hst
                go_wp2_with (first
                  | (go_at_call 74; refine (mkc _).mono ?_; rintro e w5 ⟨rfl, hb5⟩)
                  | (go_at_call 103; refine (dcall _).mono ?_; rintro e w6 ⟨rfl, hb6⟩; have hown6 : OwnsTexts w6 w4.heap.size _ [] := ownsRow_below hown (bel hb5 hb6); have hb6' := hbel.trans ((bel hb5 hb6).mono hsz); have hsz6 := hb6'.size))
                go_roundw
                case rel => exact ⟨k + 1, by omega, by go_num, by rw [HST2.out]; exact hown6, hb6'⟩
                case measure => simp [intOf]; omega
        · obtain ⟨va, vc, rfl⟩ := hown.form
          obtain ⟨g, rfl, hvc⟩ := hown.place hemp
          rcases dots_cases t with hd | hd | hd
          · rw [pstep_zero hd] at hst
            rw [hd] at dcall
            have HST2 : Hid _ := hst
            clear hst hd hemp
            go_wp2_with (first
              | (go_at_call 74; refine (mkc _).mono ?_; rintro e w5 ⟨rfl, hb5⟩)
              | (go_at_call 103; refine (dcall _).mono ?_; rintro e w6 ⟨rfl, hb6⟩; have hown6 : OwnsTexts w6 w4.heap.size _ ks := ownsRow_below hown (bel hb5 hb6); have hb6' := hbel.trans ((bel hb5 hb6).mono hsz); have hsz6 := hb6'.size)
              | (at_builtin; refine wpList_append_own _ rfl _ _ 39 rfl w4.heap.size 9 i0 (.string ByteArray.empty) 1 16 Tryz.underlying39 hi hz0 hz1 hz2 rfl (by decide) _ _ _ rfl (World.ownsRow_nil _ _ _ _) ⟨g, 0, none⟩ ks.length vc (ks.map strV) rfl (by simp) (cells_clone hown6) (one_strV _) (by unfold maxLen; omega) (by omega) hsz6 ?_; intro v1 w7 hown1 hgrow1 hnil1; rw [Nat.zero_add, List.nil_append] at hown1; have hb7 := hb6'.grown hgrow1 hsz6 (fun q hq => by cases hq); have hsz7 := hb7.size)
              | (at_builtin; refine wpList_append_own _ rfl _ _ 39 rfl w4.heap.size 9 i0 (.string ByteArray.empty) 1 16 Tryz.underlying39 hi hz0 hz1 hz2 rfl (by decide) _ _ _ rfl (World.ownsRow.alloc hown1 _) ⟨w7.heap.size, 0, none⟩ 1 1 [.string (str t)] rfl rfl (cell_one_new _ _ _) (fun x hx => by simp at hx; subst hx; rfl) (by unfold maxLen; omega) (by omega) (by simp; omega) ?_; intro v' w8 hown' hgrow hnil))
            go_roundw
            case rel => exact ⟨k + 1, by omega, by go_num, OwnsTexts.of HST2.out rfl hown', (hb7.alloc hsz7 _).grown hgrow (by simp; omega) (fun q hq => (World.ownsRow.lt hown1 q hq).1)⟩
            case measure => simp [intOf]; omega
          · rw [pstep_one hd] at hst
            rw [hd] at dcall
            clear hd hemp
            by_cases hlast : k + 1 = ps.length
            · rw [decide_eq_true hlast, if_pos rfl] at hst
              have HST2 : Hid _ := hst
              have hq : ((k : Int) == (qs.length : Int) - 1) = true := by rw [beq_iff_eq]; omega
              clear hst
              have hlast2 : Hid _ := hlast
              clear hlast
              go_wp2_with (first
                | (go_at_call 74; refine (mkc _).mono ?_; rintro e w5 ⟨rfl, hb5⟩)
                | (go_at_call 103; refine (dcall _).mono ?_; rintro e w6 ⟨rfl, hb6⟩; have hown6 : OwnsTexts w6 w4.heap.size _ ks := ownsRow_below hown (bel hb5 hb6); have hb6' := hbel.trans ((bel hb5 hb6).mono hsz); have hsz6 := hb6'.size)
                | (at_builtin; refine wpList_append_own _ rfl _ _ 39 rfl w4.heap.size 9 i0 (.string ByteArray.empty) 1 16 Tryz.underlying39 hi hz0 hz1 hz2 rfl (by decide) _ _ _ rfl (World.ownsRow_nil _ _ _ _) ⟨g, 0, none⟩ ks.length vc (ks.map strV) rfl (by simp) (cells_clone hown6) (one_strV _) (by unfold maxLen; omega) (by omega) hsz6 ?_; intro v1 w7 hown1 hgrow1 hnil1; rw [Nat.zero_add, List.nil_append] at hown1; have hb7 := hb6'.grown hgrow1 hsz6 (fun q hq => by cases hq); have hsz7 := hb7.size)
                | (at_builtin; refine wpList_append_own _ rfl _ _ 39 rfl w4.heap.size 9 i0 (.string ByteArray.empty) 1 16 Tryz.underlying39 hi hz0 hz1 hz2 rfl (by decide) _ _ _ rfl (World.ownsRow.alloc hown1 _) ⟨w7.heap.size, 0, none⟩ 1 1 [.string (str [])] rfl rfl (cell_one_new _ _ _) (fun x hx => by simp at hx; subst hx; rfl) (by unfold maxLen; omega) (by omega) (by simp; omega) ?_; intro v' w8 hown' hgrow hnil))
              go_roundw
              case rel => exact ⟨k + 1, by omega, by go_num, OwnsTexts.of HST2.out rfl hown', (hb7.alloc hsz7 _).grown hgrow (by simp; omega) (fun q hq => (World.ownsRow.lt hown1 q hq).1)⟩
              case measure => simp [intOf]; omega
            · rw [decide_eq_false hlast, if_neg (by decide), List.append_nil] at hst
              have HST2 : Hid _ := hst
              have hq : ((k : Int) == (qs.length : Int) - 1) = false := by rw [beq_eq_false_iff_ne]; omega
              clear hst
              go_wp2_with (first
                | (go_at_call 74; refine (mkc _).mono ?_; rintro e w5 ⟨rfl, hb5⟩)
                | (go_at_call 103; refine (dcall _).mono ?_; rintro e w6 ⟨rfl, hb6⟩; have hown6 : OwnsTexts w6 w4.heap.size _ ks := ownsRow_below hown (bel hb5 hb6); have hb6' := hbel.trans ((bel hb5 hb6).mono hsz); have hsz6 := hb6'.size))
              go_roundw
              case rel => exact ⟨k + 1, by omega, by go_num, by rw [HST2.out]; exact hown6, hb6'⟩
              case measure => simp [intOf]; omega
          · rw [pstep_two hd] at hst
            rw [hd] at dcall
            clear hd
            obtain ⟨n, hn⟩ : ∃ n, ks.length = n + 1 := ⟨ks.length - 1, by have := List.length_pos_iff.2 hemp; omega⟩
            rw [hn] at hown hvc ⊢
            have hcut := hown.cut hn
            have hnc : (n : Int) ≤ (vc : Int) := by omega
            have hdl : ks.dropLast.length = n := by rw [List.length_dropLast]; omega
            generalize hkd : ks.dropLast = kd at hst hcut hdl
            clear hkd hemp hown
            subst hdl
            by_cases hlast : k + 1 = ps.length
            · rw [decide_eq_true hlast, if_pos rfl] at hst
              have HST2 : Hid _ := hst
              have hq : ((k : Int) == (qs.length : Int) - 1) = true := by rw [beq_iff_eq]; omega
              clear hst
              have hlast2 : Hid _ := hlast
              clear hlast
              go_wp2_with (first
                | (go_at_call 74; refine (mkc _).mono ?_; rintro e w5 ⟨rfl, hb5⟩)
                | (go_at_call 103; refine (dcall _).mono ?_; rintro e w6 ⟨rfl, hb6⟩; have hown6 : OwnsTexts w6 w4.heap.size _ kd := ownsRow_below hcut (bel hb5 hb6); have hb6' := hbel.trans ((bel hb5 hb6).mono hsz); have hsz6 := hb6'.size)
                | (at_builtin; refine wpList_append_own _ rfl _ _ 39 rfl w4.heap.size 9 i0 (.string ByteArray.empty) 1 16 Tryz.underlying39 hi hz0 hz1 hz2 rfl (by decide) _ _ _ rfl (World.ownsRow_nil _ _ _ _) ⟨g, 0, none⟩ kd.length vc (kd.map strV) rfl (by simp) (cells_clone hown6) (one_strV _) (by unfold maxLen; omega) (by omega) hsz6 ?_; intro v1 w7 hown1 hgrow1 hnil1; rw [Nat.zero_add, List.nil_append] at hown1; have hb7 := hb6'.grown hgrow1 hsz6 (fun q hq => by cases hq); have hsz7 := hb7.size)
                | (at_builtin; refine wpList_append_own _ rfl _ _ 39 rfl w4.heap.size 9 i0 (.string ByteArray.empty) 1 16 Tryz.underlying39 hi hz0 hz1 hz2 rfl (by decide) _ _ _ rfl (World.ownsRow.alloc hown1 _) ⟨w7.heap.size, 0, none⟩ 1 1 [.string (str [])] rfl rfl (cell_one_new _ _ _) (fun x hx => by simp at hx; subst hx; rfl) (by unfold maxLen; omega) (by omega) (by simp; omega) ?_; intro v' w8 hown' hgrow hnil))
              go_roundw
              case rel => exact ⟨k + 1, by omega, by go_num, OwnsTexts.of HST2.out rfl hown', (hb7.alloc hsz7 _).grown hgrow (by simp; omega) (fun q hq => (World.ownsRow.lt hown1 q hq).1)⟩
              case measure => simp [intOf]; omega
            · rw [decide_eq_false hlast, if_neg (by decide), List.append_nil] at hst
              have HST2 : Hid _ := hst
              have hq : ((k : Int) == (qs.length : Int) - 1) = false := by rw [beq_eq_false_iff_ne]; omega
              clear hst
              go_wp2_with (first
                | (go_at_call 74; refine (mkc _).mono ?_; rintro e w5 ⟨rfl, hb5⟩)
                | (go_at_call 103; refine (dcall _).mono ?_; rintro e w6 ⟨rfl, hb6⟩; have hown6 : OwnsTexts w6 w4.heap.size _ kd := ownsRow_below hcut (bel hb5 hb6); have hb6' := hbel.trans ((bel hb5 hb6).mono hsz); have hsz6 := hb6'.size))
              go_roundw
              case rel => exact ⟨k + 1, by omega, by go_num, by rw [HST2.out]; exact hown6, hb6'⟩
              case measure => simp [intOf]; omega
      · obtain rfl : k = ps.length := by omega
        have hsl := HST.out _ (Nat.le_refl _)
        generalize Url.st ps ps.length = ks at hown HK hsl
        have hrd := hown.reads
        have hkl := HK.out.2
        have joinc : Calls Tryz.prog 104 #[.string ⟨#[47]⟩, _] wr fun e w' => e = .returned (.string (str (Lib.join ks [47]))) ∧ w' = wr := RJoin_slash _ ks wr hrd (by omega) (by omega)
        have hadd : (⟨#[47]⟩ : ByteArray) ++ str (Lib.join ks [47]) = str (Url.path l) := by
          rw [HK.out.1]
          exact str_add [47] _
        have hjs := str_size (Lib.join ks [47])
        go_wp2_with (go_at_call 104; refine joinc.mono ?_; rintro e w5 ⟨rfl, hw5⟩; rw [hw5]; clear hw5)
        go_ret
        exact ⟨rfl, hb4.trans (hbel.mono hn4)⟩
  case inr.inr =>
    have hu : unhead l = l := by rw [hl]; exact unhead_no r hsl0
    have hl1 : l.length = r.length + 1 := by rw [hl]; rfl
    have hat0 : ∀ h : 0 < (str l).size, (str l)[0]'h = c := by subst hl; exact fun _ => rfl
    rw [hu] at partc
    have hn0 : (0 : Int) < (l.length : Int) := by omega
    clear hl hu hl1
    go_enter Tryz.func73, Tryz.ntmps73
    go_upto_region 6 with (first
      | (go_at_call 38; refine (RIsSlash_any c _).mono ?_; rintro e w1 ⟨rfl, hw1⟩; rw [hw1, hsl0]; clear hw1)
      | (go_at_call 102; refine (partc _).mono ?_; rintro e w4 ⟨v, rfl, hown4, hb4⟩; have hrd := hown4.reads; clear hown4; obtain ⟨a1, c1, rfl⟩ := hrd.form))
    have HRD : Hid (ReadsTexts w4 (.slice a1 qs.length c1) qs) := hrd
    have hn4 := hb4.size
    clear hrd partc
    go_loopw [4, 5] (fun v i wr => ∃ k : Nat, k ≤ ps.length ∧ i = .int .i64 k ∧ OwnsTexts wr w4.heap.size v (Url.st ps k) ∧ Below w4.heap.size w4 wr) (fun _ i _ => ps.length - (intOf i).toNat)
    case atStart => exact ⟨0, Nat.zero_le _, rfl, by rw [Url.st_zero ps hne]; exact OwnsTexts.nil _ _, Below.refl _ _⟩
    case round =>
      obtain ⟨k, hk, rfl, hown, hbel⟩ := hrel
      by_cases hlt : k < qs.length
      · obtain ⟨q, hqq⟩ : ∃ q, qs[k]? = some q := ⟨_, List.getElem?_eq_getElem hlt⟩
        obtain ⟨b, o, rfl, hc, hbl, h1⟩ := ReadsTexts.at HRD.out hqq
        have g1 := (hbel.cell (p := ⟨b, o + k, none⟩) hbl).trans h1
        have hql := HQ.out q (List.mem_of_getElem? hqq)
        have hlt2 : k < ps.length := by omega
        have hst := Url.st_next ps k hlt2
        have hpk : ps[k] = Pct.mark Url.freeP q := by
          have e : ps[k]? = some (Pct.mark Url.freeP q) := by rw [HPE.out, List.getElem?_map, hqq]; rfl
          rw [List.getElem?_eq_getElem hlt2] at e
          exact Option.some.inj e
        rw [hpk] at hst
        have hml := Pct.mark_len Url.freeP q
        have mkc : ∀ W : World, Calls Tryz.prog 74 #[.string (str q), .string ⟨#[35, 63, 96, 123, 125]⟩] W _ := fun W => RMarkedP q W (by omega)
        have dcall : ∀ W : World, Calls Tryz.prog 103 #[.string (str (Pct.mark Url.freeP q))] W _ := fun W => Rdots_any _ W (by omega)
        generalize Pct.mark Url.freeP q = t at hst mkc dcall hml
        have hsl := HST.out k hk
        have hsz := hbel.size
        generalize hks : Url.st ps k = ks at hown hst hsl
        clear h1 hqq hpk hks
        by_cases hemp : ks = []
        · subst hemp
          rcases hown.2 with ⟨hv, _⟩ | ⟨g, cap, cur, hv, _⟩
          · subst hv
            rcases dots_cases t with hd | hd | hd
            · rw [pstep_zero hd, List.nil_append] at hst
              rw [hd] at dcall
              have HST2 : Hid _ := hst
              clear hst hd
              go_wp2_with (first
                | (go_at_call 74; refine (mkc _).mono ?_; rintro e w5 ⟨rfl, hb5⟩)
                | (go_at_call 103; refine (dcall _).mono ?_; rintro e w6 ⟨rfl, hb6⟩; have hown6 : OwnsTexts w6 w4.heap.size _ [] := ownsRow_below hown (bel hb5 hb6); have hb6' := hbel.trans ((bel hb5 hb6).mono hsz); have hsz6 := hb6'.size)
                | (at_builtin; refine wpList_append_own _ rfl _ _ 39 rfl w4.heap.size 9 i0 (.string ByteArray.empty) 1 16 Tryz.underlying39 hi hz0 hz1 hz2 rfl (by decide) _ _ _ rfl (World.ownsRow.alloc hown6 _) ⟨w6.heap.size, 0, none⟩ 1 1 [.string (str t)] rfl rfl (cell_one_new _ _ _) (fun x hx => by simp at hx; subst hx; rfl) (by unfold maxLen; omega) (by omega) (by simp; omega) ?_; intro v' w8 hown' hgrow hnil))
              go_roundw
              case rel => exact ⟨k + 1, by omega, by go_num, OwnsTexts.of (ts := []) HST2.out rfl hown', (hb6'.alloc hsz6 _).grown hgrow (by simp; omega) (fun q hq => (World.ownsRow.lt hown6 q hq).1)⟩
              case measure => simp [intOf]; omega
            · rw [pstep_one hd, List.nil_append] at hst
              rw [hd] at dcall
              clear hd
              by_cases hlast : k + 1 = ps.length
              · rw [decide_eq_true hlast, if_pos rfl] at hst
                have HST2 : Hid _ := hst
                have hq : ((k : Int) == (qs.length : Int) - 1) = true := by rw [beq_iff_eq]; omega
                clear hst
                have hlast2 : Hid _ := hlast
                clear hlast
                go_wp2_with (first
                  | (go_at_call 74; refine (mkc _).mono ?_; rintro e w5 ⟨rfl, hb5⟩)
                  | (go_at_call 103; refine (dcall _).mono ?_; rintro e w6 ⟨rfl, hb6⟩; have hown6 : OwnsTexts w6 w4.heap.size _ [] := ownsRow_below hown (bel hb5 hb6); have hb6' := hbel.trans ((bel hb5 hb6).mono hsz); have hsz6 := hb6'.size)
                  | (at_builtin; refine wpList_append_own _ rfl _ _ 39 rfl w4.heap.size 9 i0 (.string ByteArray.empty) 1 16 Tryz.underlying39 hi hz0 hz1 hz2 rfl (by decide) _ _ _ rfl (World.ownsRow.alloc hown6 _) ⟨w6.heap.size, 0, none⟩ 1 1 [.string (str [])] rfl rfl (cell_one_new _ _ _) (fun x hx => by simp at hx; subst hx; rfl) (by unfold maxLen; omega) (by omega) (by simp; omega) ?_; intro v' w8 hown' hgrow hnil))
                go_roundw
                case rel => exact ⟨k + 1, by omega, by go_num, OwnsTexts.of (ts := []) HST2.out rfl hown', (hb6'.alloc hsz6 _).grown hgrow (by simp; omega) (fun q hq => (World.ownsRow.lt hown6 q hq).1)⟩
                case measure => simp [intOf]; omega
              · rw [decide_eq_false hlast, if_neg (by decide)] at hst
                have HST2 : Hid _ := hst
                have hq : ((k : Int) == (qs.length : Int) - 1) = false := by rw [beq_eq_false_iff_ne]; omega
                clear hst
                go_wp2_with (first
                  | (go_at_call 74; refine (mkc _).mono ?_; rintro e w5 ⟨rfl, hb5⟩)
                  | (go_at_call 103; refine (dcall _).mono ?_; rintro e w6 ⟨rfl, hb6⟩; have hown6 : OwnsTexts w6 w4.heap.size _ [] := ownsRow_below hown (bel hb5 hb6); have hb6' := hbel.trans ((bel hb5 hb6).mono hsz); have hsz6 := hb6'.size))
                go_roundw
                case rel => exact ⟨k + 1, by omega, by go_num, by rw [HST2.out]; exact hown6, hb6'⟩
                case measure => simp [intOf]; omega
            · rw [pstep_two hd, List.dropLast_nil, List.nil_append] at hst
              rw [hd] at dcall
              clear hd
              by_cases hlast : k + 1 = ps.length
              · rw [decide_eq_true hlast, if_pos rfl] at hst
                have HST2 : Hid _ := hst
                have hq : ((k : Int) == (qs.length : Int) - 1) = true := by rw [beq_iff_eq]; omega
                clear hst
                have hlast2 : Hid _ := hlast
                clear hlast
                go_wp2_with (first
                  | (go_at_call 74; refine (mkc _).mono ?_; rintro e w5 ⟨rfl, hb5⟩)
                  | (go_at_call 103; refine (dcall _).mono ?_; rintro e w6 ⟨rfl, hb6⟩; have hown6 : OwnsTexts w6 w4.heap.size _ [] := ownsRow_below hown (bel hb5 hb6); have hb6' := hbel.trans ((bel hb5 hb6).mono hsz); have hsz6 := hb6'.size)
                  | (at_builtin; refine wpList_append_own _ rfl _ _ 39 rfl w4.heap.size 9 i0 (.string ByteArray.empty) 1 16 Tryz.underlying39 hi hz0 hz1 hz2 rfl (by decide) _ _ _ rfl (World.ownsRow.alloc hown6 _) ⟨w6.heap.size, 0, none⟩ 1 1 [.string (str [])] rfl rfl (cell_one_new _ _ _) (fun x hx => by simp at hx; subst hx; rfl) (by unfold maxLen; omega) (by omega) (by simp; omega) ?_; intro v' w8 hown' hgrow hnil))
                go_roundw
                case rel => exact ⟨k + 1, by omega, by go_num, OwnsTexts.of (ts := []) HST2.out rfl hown', (hb6'.alloc hsz6 _).grown hgrow (by simp; omega) (fun q hq => (World.ownsRow.lt hown6 q hq).1)⟩
                case measure => simp [intOf]; omega
              · rw [decide_eq_false hlast, if_neg (by decide)] at hst
                have HST2 : Hid _ := hst
                have hq : ((k : Int) == (qs.length : Int) - 1) = false := by rw [beq_eq_false_iff_ne]; omega
                clear hst
                go_wp2_with (first
                  | (go_at_call 74; refine (mkc _).mono ?_; rintro e w5 ⟨rfl, hb5⟩)
                  | (go_at_call 103; refine (dcall _).mono ?_; rintro e w6 ⟨rfl, hb6⟩; have hown6 : OwnsTexts w6 w4.heap.size _ [] := ownsRow_below hown (bel hb5 hb6); have hb6' := hbel.trans ((bel hb5 hb6).mono hsz); have hsz6 := hb6'.size))
                go_roundw
                case rel => exact ⟨k + 1, by omega, by go_num, by rw [HST2.out]; exact hown6, hb6'⟩
                case measure => simp [intOf]; omega
          · have hv' := hv
            subst hv
            obtain ⟨vc, hvc⟩ : ∃ vc, cap = vc := ⟨_, rfl⟩
            subst hvc
            have hvc0 : 0 ≤ cap := Nat.zero_le _
            rcases dots_cases t with hd | hd | hd
            · rw [pstep_zero hd] at hst
              rw [hd] at dcall
              have HST2 : Hid _ := hst
              clear hst hd hv'
              go_wp2_with (first
                | (go_at_call 74; refine (mkc _).mono ?_; rintro e w5 ⟨rfl, hb5⟩)
                | (go_at_call 103; refine (dcall _).mono ?_; rintro e w6 ⟨rfl, hb6⟩; have hown6 : OwnsTexts w6 w4.heap.size _ [] := ownsRow_below hown (bel hb5 hb6); have hb6' := hbel.trans ((bel hb5 hb6).mono hsz); have hsz6 := hb6'.size)
                | (at_builtin; refine wpList_append_own _ rfl _ _ 39 rfl w4.heap.size 9 i0 (.string ByteArray.empty) 1 16 Tryz.underlying39 hi hz0 hz1 hz2 rfl (by decide) _ _ _ rfl (World.ownsRow_nil _ _ _ _) ⟨g, 0, none⟩ [].length cap ([].map strV) rfl (by simp) (cells_clone hown6) (one_strV _) (by unfold maxLen; omega) (by omega) hsz6 ?_; intro v1 w7 hown1 hgrow1 hnil1; rw [Nat.zero_add, List.nil_append] at hown1; have hb7 := hb6'.grown hgrow1 hsz6 (fun q hq => by cases hq); have hsz7 := hb7.size)
                | (at_builtin; refine wpList_append_own _ rfl _ _ 39 rfl w4.heap.size 9 i0 (.string ByteArray.empty) 1 16 Tryz.underlying39 hi hz0 hz1 hz2 rfl (by decide) _ _ _ rfl (World.ownsRow.alloc hown1 _) ⟨w7.heap.size, 0, none⟩ 1 1 [.string (str t)] rfl rfl (cell_one_new _ _ _) (fun x hx => by simp at hx; subst hx; rfl) (by unfold maxLen; omega) (by omega) (by simp; omega) ?_; intro v' w8 hown' hgrow hnil))
              go_roundw
              case rel => exact ⟨k + 1, by omega, by go_num, OwnsTexts.of HST2.out rfl hown', (hb7.alloc hsz7 _).grown hgrow (by simp; omega) (fun q hq => (World.ownsRow.lt hown1 q hq).1)⟩
              case measure => simp [intOf]; omega
            · rw [pstep_one hd] at hst
              rw [hd] at dcall
              clear hd hv'
              by_cases hlast : k + 1 = ps.length
              · rw [decide_eq_true hlast, if_pos rfl] at hst
                have HST2 : Hid _ := hst
                have hq : ((k : Int) == (qs.length : Int) - 1) = true := by rw [beq_iff_eq]; omega
                clear hst
                have hlast2 : Hid _ := hlast
                clear hlast
                go_wp2_with (first
                  | (go_at_call 74; refine (mkc _).mono ?_; rintro e w5 ⟨rfl, hb5⟩)
                  | (go_at_call 103; refine (dcall _).mono ?_; rintro e w6 ⟨rfl, hb6⟩; have hown6 : OwnsTexts w6 w4.heap.size _ [] := ownsRow_below hown (bel hb5 hb6); have hb6' := hbel.trans ((bel hb5 hb6).mono hsz); have hsz6 := hb6'.size)
                  | (at_builtin; refine wpList_append_own _ rfl _ _ 39 rfl w4.heap.size 9 i0 (.string ByteArray.empty) 1 16 Tryz.underlying39 hi hz0 hz1 hz2 rfl (by decide) _ _ _ rfl (World.ownsRow_nil _ _ _ _) ⟨g, 0, none⟩ [].length cap ([].map strV) rfl (by simp) (cells_clone hown6) (one_strV _) (by unfold maxLen; omega) (by omega) hsz6 ?_; intro v1 w7 hown1 hgrow1 hnil1; rw [Nat.zero_add, List.nil_append] at hown1; have hb7 := hb6'.grown hgrow1 hsz6 (fun q hq => by cases hq); have hsz7 := hb7.size)
                  | (at_builtin; refine wpList_append_own _ rfl _ _ 39 rfl w4.heap.size 9 i0 (.string ByteArray.empty) 1 16 Tryz.underlying39 hi hz0 hz1 hz2 rfl (by decide) _ _ _ rfl (World.ownsRow.alloc hown1 _) ⟨w7.heap.size, 0, none⟩ 1 1 [.string (str [])] rfl rfl (cell_one_new _ _ _) (fun x hx => by simp at hx; subst hx; rfl) (by unfold maxLen; omega) (by omega) (by simp; omega) ?_; intro v' w8 hown' hgrow hnil))
                go_roundw
                case rel => exact ⟨k + 1, by omega, by go_num, OwnsTexts.of HST2.out rfl hown', (hb7.alloc hsz7 _).grown hgrow (by simp; omega) (fun q hq => (World.ownsRow.lt hown1 q hq).1)⟩
                case measure => simp [intOf]; omega
              · rw [decide_eq_false hlast, if_neg (by decide), List.append_nil] at hst
                have HST2 : Hid _ := hst
                have hq : ((k : Int) == (qs.length : Int) - 1) = false := by rw [beq_eq_false_iff_ne]; omega
                clear hst
                go_wp2_with (first
                  | (go_at_call 74; refine (mkc _).mono ?_; rintro e w5 ⟨rfl, hb5⟩)
                  | (go_at_call 103; refine (dcall _).mono ?_; rintro e w6 ⟨rfl, hb6⟩; have hown6 : OwnsTexts w6 w4.heap.size _ [] := ownsRow_below hown (bel hb5 hb6); have hb6' := hbel.trans ((bel hb5 hb6).mono hsz); have hsz6 := hb6'.size))
                go_roundw
                case rel => exact ⟨k + 1, by omega, by go_num, by rw [HST2.out]; exact hown6, hb6'⟩
                case measure => simp [intOf]; omega
            · rw [pstep_two hd, List.dropLast_nil] at hst
              rw [hd] at dcall
              clear hd hv'
              by_cases hlast : k + 1 = ps.length
              · rw [decide_eq_true hlast, if_pos rfl] at hst
                have HST2 : Hid _ := hst
                have hq : ((k : Int) == (qs.length : Int) - 1) = true := by rw [beq_iff_eq]; omega
                clear hst
                have hlast2 : Hid _ := hlast
                clear hlast
                go_wp2_with (first
                  | (go_at_call 74; refine (mkc _).mono ?_; rintro e w5 ⟨rfl, hb5⟩)
                  | (go_at_call 103; refine (dcall _).mono ?_; rintro e w6 ⟨rfl, hb6⟩; have hown6 : OwnsTexts w6 w4.heap.size _ [] := ownsRow_below hown (bel hb5 hb6); have hb6' := hbel.trans ((bel hb5 hb6).mono hsz); have hsz6 := hb6'.size)
                  | (at_builtin; refine wpList_append_own _ rfl _ _ 39 rfl w4.heap.size 9 i0 (.string ByteArray.empty) 1 16 Tryz.underlying39 hi hz0 hz1 hz2 rfl (by decide) _ _ _ rfl (World.ownsRow_nil _ _ _ _) ⟨g, 0, none⟩ [].length cap ([].map strV) rfl (by simp) (cells_clone hown6) (one_strV _) (by unfold maxLen; omega) (by omega) hsz6 ?_; intro v1 w7 hown1 hgrow1 hnil1; rw [Nat.zero_add, List.nil_append] at hown1; have hb7 := hb6'.grown hgrow1 hsz6 (fun q hq => by cases hq); have hsz7 := hb7.size)
                  | (at_builtin; refine wpList_append_own _ rfl _ _ 39 rfl w4.heap.size 9 i0 (.string ByteArray.empty) 1 16 Tryz.underlying39 hi hz0 hz1 hz2 rfl (by decide) _ _ _ rfl (World.ownsRow.alloc hown1 _) ⟨w7.heap.size, 0, none⟩ 1 1 [.string (str [])] rfl rfl (cell_one_new _ _ _) (fun x hx => by simp at hx; subst hx; rfl) (by unfold maxLen; omega) (by omega) (by simp; omega) ?_; intro v' w8 hown' hgrow hnil))
                go_roundw
                case rel => exact ⟨k + 1, by omega, by go_num, OwnsTexts.of HST2.out rfl hown', (hb7.alloc hsz7 _).grown hgrow (by simp; omega) (fun q hq => (World.ownsRow.lt hown1 q hq).1)⟩
                case measure => simp [intOf]; omega
              · rw [decide_eq_false hlast, if_neg (by decide), List.append_nil] at hst
                have HST2 : Hid _ := hst
                have hq : ((k : Int) == (qs.length : Int) - 1) = false := by rw [beq_eq_false_iff_ne]; omega
                clear hst
                go_wp2_with (first
                  | (go_at_call 74; refine (mkc _).mono ?_; rintro e w5 ⟨rfl, hb5⟩)
                  | (go_at_call 103; refine (dcall _).mono ?_; rintro e w6 ⟨rfl, hb6⟩; have hown6 : OwnsTexts w6 w4.heap.size _ [] := ownsRow_below hown (bel hb5 hb6); have hb6' := hbel.trans ((bel hb5 hb6).mono hsz); have hsz6 := hb6'.size))
                go_roundw
                case rel => exact ⟨k + 1, by omega, by go_num, by rw [HST2.out]; exact hown6, hb6'⟩
                case measure => simp [intOf]; omega
        · obtain ⟨va, vc, rfl⟩ := hown.form
          obtain ⟨g, rfl, hvc⟩ := hown.place hemp
          rcases dots_cases t with hd | hd | hd
          · rw [pstep_zero hd] at hst
            rw [hd] at dcall
            have HST2 : Hid _ := hst
            clear hst hd hemp
            go_wp2_with (first
              | (go_at_call 74; refine (mkc _).mono ?_; rintro e w5 ⟨rfl, hb5⟩)
              | (go_at_call 103; refine (dcall _).mono ?_; rintro e w6 ⟨rfl, hb6⟩; have hown6 : OwnsTexts w6 w4.heap.size _ ks := ownsRow_below hown (bel hb5 hb6); have hb6' := hbel.trans ((bel hb5 hb6).mono hsz); have hsz6 := hb6'.size)
              | (at_builtin; refine wpList_append_own _ rfl _ _ 39 rfl w4.heap.size 9 i0 (.string ByteArray.empty) 1 16 Tryz.underlying39 hi hz0 hz1 hz2 rfl (by decide) _ _ _ rfl (World.ownsRow_nil _ _ _ _) ⟨g, 0, none⟩ ks.length vc (ks.map strV) rfl (by simp) (cells_clone hown6) (one_strV _) (by unfold maxLen; omega) (by omega) hsz6 ?_; intro v1 w7 hown1 hgrow1 hnil1; rw [Nat.zero_add, List.nil_append] at hown1; have hb7 := hb6'.grown hgrow1 hsz6 (fun q hq => by cases hq); have hsz7 := hb7.size)
              | (at_builtin; refine wpList_append_own _ rfl _ _ 39 rfl w4.heap.size 9 i0 (.string ByteArray.empty) 1 16 Tryz.underlying39 hi hz0 hz1 hz2 rfl (by decide) _ _ _ rfl (World.ownsRow.alloc hown1 _) ⟨w7.heap.size, 0, none⟩ 1 1 [.string (str t)] rfl rfl (cell_one_new _ _ _) (fun x hx => by simp at hx; subst hx; rfl) (by unfold maxLen; omega) (by omega) (by simp; omega) ?_; intro v' w8 hown' hgrow hnil))
            go_roundw
            case rel => exact ⟨k + 1, by omega, by go_num, OwnsTexts.of HST2.out rfl hown', (hb7.alloc hsz7 _).grown hgrow (by simp; omega) (fun q hq => (World.ownsRow.lt hown1 q hq).1)⟩
            case measure => simp [intOf]; omega
          · rw [pstep_one hd] at hst
            rw [hd] at dcall
            clear hd hemp
            by_cases hlast : k + 1 = ps.length
            · rw [decide_eq_true hlast, if_pos rfl] at hst
              have HST2 : Hid _ := hst
              have hq : ((k : Int) == (qs.length : Int) - 1) = true := by rw [beq_iff_eq]; omega
              clear hst
              have hlast2 : Hid _ := hlast
              clear hlast
              go_wp2_with (first
                | (go_at_call 74; refine (mkc _).mono ?_; rintro e w5 ⟨rfl, hb5⟩)
                | (go_at_call 103; refine (dcall _).mono ?_; rintro e w6 ⟨rfl, hb6⟩; have hown6 : OwnsTexts w6 w4.heap.size _ ks := ownsRow_below hown (bel hb5 hb6); have hb6' := hbel.trans ((bel hb5 hb6).mono hsz); have hsz6 := hb6'.size)
                | (at_builtin; refine wpList_append_own _ rfl _ _ 39 rfl w4.heap.size 9 i0 (.string ByteArray.empty) 1 16 Tryz.underlying39 hi hz0 hz1 hz2 rfl (by decide) _ _ _ rfl (World.ownsRow_nil _ _ _ _) ⟨g, 0, none⟩ ks.length vc (ks.map strV) rfl (by simp) (cells_clone hown6) (one_strV _) (by unfold maxLen; omega) (by omega) hsz6 ?_; intro v1 w7 hown1 hgrow1 hnil1; rw [Nat.zero_add, List.nil_append] at hown1; have hb7 := hb6'.grown hgrow1 hsz6 (fun q hq => by cases hq); have hsz7 := hb7.size)
                | (at_builtin; refine wpList_append_own _ rfl _ _ 39 rfl w4.heap.size 9 i0 (.string ByteArray.empty) 1 16 Tryz.underlying39 hi hz0 hz1 hz2 rfl (by decide) _ _ _ rfl (World.ownsRow.alloc hown1 _) ⟨w7.heap.size, 0, none⟩ 1 1 [.string (str [])] rfl rfl (cell_one_new _ _ _) (fun x hx => by simp at hx; subst hx; rfl) (by unfold maxLen; omega) (by omega) (by simp; omega) ?_; intro v' w8 hown' hgrow hnil))
              go_roundw
              case rel => exact ⟨k + 1, by omega, by go_num, OwnsTexts.of HST2.out rfl hown', (hb7.alloc hsz7 _).grown hgrow (by simp; omega) (fun q hq => (World.ownsRow.lt hown1 q hq).1)⟩
              case measure => simp [intOf]; omega
            · rw [decide_eq_false hlast, if_neg (by decide), List.append_nil] at hst
              have HST2 : Hid _ := hst
              have hq : ((k : Int) == (qs.length : Int) - 1) = false := by rw [beq_eq_false_iff_ne]; omega
              clear hst
              go_wp2_with (first
                | (go_at_call 74; refine (mkc _).mono ?_; rintro e w5 ⟨rfl, hb5⟩)
                | (go_at_call 103; refine (dcall _).mono ?_; rintro e w6 ⟨rfl, hb6⟩; have hown6 : OwnsTexts w6 w4.heap.size _ ks := ownsRow_below hown (bel hb5 hb6); have hb6' := hbel.trans ((bel hb5 hb6).mono hsz); have hsz6 := hb6'.size))
              go_roundw
              case rel => exact ⟨k + 1, by omega, by go_num, by rw [HST2.out]; exact hown6, hb6'⟩
              case measure => simp [intOf]; omega
          · rw [pstep_two hd] at hst
            rw [hd] at dcall
            clear hd
            obtain ⟨n, hn⟩ : ∃ n, ks.length = n + 1 := ⟨ks.length - 1, by have := List.length_pos_iff.2 hemp; omega⟩
            rw [hn] at hown hvc ⊢
            have hcut := hown.cut hn
            have hnc : (n : Int) ≤ (vc : Int) := by omega
            have hdl : ks.dropLast.length = n := by rw [List.length_dropLast]; omega
            generalize hkd : ks.dropLast = kd at hst hcut hdl
            clear hkd hemp hown
            subst hdl
            by_cases hlast : k + 1 = ps.length
            · rw [decide_eq_true hlast, if_pos rfl] at hst
              have HST2 : Hid _ := hst
              have hq : ((k : Int) == (qs.length : Int) - 1) = true := by rw [beq_iff_eq]; omega
              clear hst
              have hlast2 : Hid _ := hlast
              clear hlast
              go_wp2_with (first
                | (go_at_call 74; refine (mkc _).mono ?_; rintro e w5 ⟨rfl, hb5⟩)
                | (go_at_call 103; refine (dcall _).mono ?_; rintro e w6 ⟨rfl, hb6⟩; have hown6 : OwnsTexts w6 w4.heap.size _ kd := ownsRow_below hcut (bel hb5 hb6); have hb6' := hbel.trans ((bel hb5 hb6).mono hsz); have hsz6 := hb6'.size)
                | (at_builtin; refine wpList_append_own _ rfl _ _ 39 rfl w4.heap.size 9 i0 (.string ByteArray.empty) 1 16 Tryz.underlying39 hi hz0 hz1 hz2 rfl (by decide) _ _ _ rfl (World.ownsRow_nil _ _ _ _) ⟨g, 0, none⟩ kd.length vc (kd.map strV) rfl (by simp) (cells_clone hown6) (one_strV _) (by unfold maxLen; omega) (by omega) hsz6 ?_; intro v1 w7 hown1 hgrow1 hnil1; rw [Nat.zero_add, List.nil_append] at hown1; have hb7 := hb6'.grown hgrow1 hsz6 (fun q hq => by cases hq); have hsz7 := hb7.size)
                | (at_builtin; refine wpList_append_own _ rfl _ _ 39 rfl w4.heap.size 9 i0 (.string ByteArray.empty) 1 16 Tryz.underlying39 hi hz0 hz1 hz2 rfl (by decide) _ _ _ rfl (World.ownsRow.alloc hown1 _) ⟨w7.heap.size, 0, none⟩ 1 1 [.string (str [])] rfl rfl (cell_one_new _ _ _) (fun x hx => by simp at hx; subst hx; rfl) (by unfold maxLen; omega) (by omega) (by simp; omega) ?_; intro v' w8 hown' hgrow hnil))
              go_roundw
              case rel => exact ⟨k + 1, by omega, by go_num, OwnsTexts.of HST2.out rfl hown', (hb7.alloc hsz7 _).grown hgrow (by simp; omega) (fun q hq => (World.ownsRow.lt hown1 q hq).1)⟩
              case measure => simp [intOf]; omega
            · rw [decide_eq_false hlast, if_neg (by decide), List.append_nil] at hst
              have HST2 : Hid _ := hst
              have hq : ((k : Int) == (qs.length : Int) - 1) = false := by rw [beq_eq_false_iff_ne]; omega
              clear hst
              go_wp2_with (first
                | (go_at_call 74; refine (mkc _).mono ?_; rintro e w5 ⟨rfl, hb5⟩)
                | (go_at_call 103; refine (dcall _).mono ?_; rintro e w6 ⟨rfl, hb6⟩; have hown6 : OwnsTexts w6 w4.heap.size _ kd := ownsRow_below hcut (bel hb5 hb6); have hb6' := hbel.trans ((bel hb5 hb6).mono hsz); have hsz6 := hb6'.size))
              go_roundw
              case rel => exact ⟨k + 1, by omega, by go_num, by rw [HST2.out]; exact hown6, hb6'⟩
              case measure => simp [intOf]; omega
      · obtain rfl : k = ps.length := by omega
        have hsl := HST.out _ (Nat.le_refl _)
        generalize Url.st ps ps.length = ks at hown HK hsl
        have hrd := hown.reads
        have hkl := HK.out.2
        have joinc : Calls Tryz.prog 104 #[.string ⟨#[47]⟩, _] wr fun e w' => e = .returned (.string (str (Lib.join ks [47]))) ∧ w' = wr := RJoin_slash _ ks wr hrd (by omega) (by omega)
        have hadd : (⟨#[47]⟩ : ByteArray) ++ str (Lib.join ks [47]) = str (Url.path l) := by
          rw [HK.out.1]
          exact str_add [47] _
        have hjs := str_size (Lib.join ks [47])
        go_wp2_with (go_at_call 104; refine joinc.mono ?_; rintro e w5 ⟨rfl, hw5⟩; rw [hw5]; clear hw5)
        go_ret
        exact ⟨rfl, hb4.trans (hbel.mono hn4)⟩
end Go.Proofs.YtnmkhbelmdokmaaGreatDoor
/- The contracts of the reference's number, Name, Host, Scheme. -/
namespace Go.Proofs.YtnmkhbelmdokmaaGreatDoor
open Go.RowKit
theorem RNumber_str (l : List UInt8) (most : Int) (w : World) (hs : l.length ≤ 1000000000) (hm2 : -9223372036854775808 ≤ most) (hm1 : most ≤ 9223372036854775807) :
    Calls Tryz.prog 72 #[.string (str l), .int .i64 most] w fun e w' => e = .returned (.tuple #[.int .i64 (Asc.numNum l most), .int .i64 (Asc.numErr l most)]) ∧ w' = w := by
  have := RNumber_any (str l) most w (by rw [str_size]; exact hs) hm2 hm1
  rw [str_data] at this
  exact this
theorem RText_str (n : Int) (w : World) (h0 : -9223372036854775808 ≤ n) (h1 : n ≤ 9223372036854775807) :
    Calls Tryz.prog 42 #[.int .i64 n] w fun e w' => e = .returned (.string (str (Lib.itoa n))) ∧ Below w.heap.size w w' := RText_any n w h0 h1
set_option maxHeartbeats 1000000 in
theorem Rnumber_any (t : List UInt8) (w : World) (htl : t.length ≤ 1000000000) :
    Calls Tryz.prog 136 #[.string (str t)] w fun e w' => e = .returned (.bool (Url.isByte t)) ∧ Below w.heap.size w w' := by
  by_cases he : Asc.numErr t 255 = 0
  · have hrb := Asc.read_back t 255 (by decide) he
    have n0 := hrb.1
    have n1 := hrb.2.1
    clear hrb
    by_cases hi : Lib.itoa (Asc.numNum t 255) = t
    · have HS : Hid (Url.isByte t = true) := by
        show _ = _
        unfold Url.isByte
        rw [decide_eq_true he, decide_eq_true hi]
        rfl
      have hq := eq_str hi
      clear hi
      go_enter Tryz.func136, Tryz.ntmps136
      go_wp2_with (first
        | (go_at_call 72; refine (RNumber_str t 255 _ htl (by decide) (by decide)).mono ?_; rintro e w1 ⟨rfl, hw1⟩; rw [hw1, he]; clear hw1)
        | (go_at_call 42; refine (RText_str _ _ (by omega) (by omega)).mono ?_; rintro e w2 ⟨rfl, hb2⟩))
      go_ret
      exact ⟨by rw [HS.out]; rfl, hb2⟩
    · have HS : Hid (Url.isByte t = false) := by
        show _ = _
        unfold Url.isByte
        rw [decide_eq_false hi, Bool.and_false]
      have hq := str_beq_no hi
      clear hi
      go_enter Tryz.func136, Tryz.ntmps136
      go_wp2_with (first
        | (go_at_call 72; refine (RNumber_str t 255 _ htl (by decide) (by decide)).mono ?_; rintro e w1 ⟨rfl, hw1⟩; rw [hw1, he]; clear hw1)
        | (go_at_call 42; refine (RText_str _ _ (by omega) (by omega)).mono ?_; rintro e w2 ⟨rfl, hb2⟩))
      go_ret
      exact ⟨by rw [HS.out]; rfl, hb2⟩
  · have HS : Hid (Url.isByte t = false) := by
      show _ = _
      unfold Url.isByte
      rw [decide_eq_false he]
      rfl
    have he2 : (Asc.numErr t 255 == 0) = false := beq_eq_false_iff_ne.2 he
    clear he
    go_enter Tryz.func136, Tryz.ntmps136
    go_wp2_with (first
      | (go_at_call 72; refine (RNumber_str t 255 _ htl (by decide) (by decide)).mono ?_; rintro e w1 ⟨rfl, hw1⟩; rw [hw1]; clear hw1))
    go_ret
    exact ⟨by rw [HS.out]; rfl, Below.refl _ _⟩
theorem nameB_yes {c : UInt8} (h : Url.nameB c = true) : (97 ≤ (c.toNat : Int) ∧ (c.toNat : Int) ≤ 122) ∨ ((c.toNat : Int) < 97 ∧ Url.isDig c = true) ∨ ((c.toNat : Int) < 97 ∧ Url.isDig c = false ∧ ((c.toNat : Int) == 45) = true) ∨ ((c.toNat : Int) < 97 ∧ Url.isDig c = false ∧ ((c.toNat : Int) == 45) = false ∧ ((c.toNat : Int) == 95) = true) := by
  have hb := Url.nameB_bytes h
  cases hd : Url.isDig c
  · have hd' : ¬ (48 ≤ c.toNat ∧ c.toNat ≤ 57) := of_decide_eq_false hd
    rcases hb with h1 | h1 | h1 | h1
    · exact .inl (by omega)
    · exact absurd h1 hd'
    · exact .inr (.inr (.inl ⟨by omega, rfl, by rw [beq_iff_eq]; omega⟩))
    · exact .inr (.inr (.inr ⟨by omega, rfl, by rw [beq_eq_false_iff_ne]; omega, by rw [beq_iff_eq]; omega⟩))
  · have hd' : 48 ≤ c.toNat ∧ c.toNat ≤ 57 := of_decide_eq_true hd
    exact .inr (.inl ⟨by omega, rfl⟩)
theorem nameB_no {c : UInt8} (h : Url.nameB c = false) : Url.isDig c = false ∧ ((c.toNat : Int) == 45) = false ∧ ((c.toNat : Int) == 95) = false ∧ ((c.toNat : Int) < 97 ∨ (97 ≤ (c.toNat : Int) ∧ ¬ (c.toNat : Int) ≤ 122)) := by
  unfold Url.nameB at h
  simp only [Bool.or_eq_false_iff, decide_eq_false_iff_not, beq_eq_false_iff_ne] at h
  obtain ⟨⟨⟨h1, h2⟩, h3⟩, h4⟩ := h
  refine ⟨h2, ?_, ?_, by omega⟩
  · rw [beq_eq_false_iff_ne]
    intro e
    exact h3 (byte_is c 45 e)
  · rw [beq_eq_false_iff_ne]
    intro e
    exact h4 (byte_is c 95 e)
set_option maxHeartbeats 4000000 in
set_option maxRecDepth 100000 in
theorem RName_any (l : List UInt8) (w : World) (hz : l.length ≤ 1000000000) :
    Calls Tryz.prog 101 #[.string (str l)] w fun e w' => e = .returned (.bool (Url.isName l)) ∧ Below w.heap.size w w' := by
  have hsz := str_size l
  have HS : Hid (Url.isName l = (decide (l.length ≤ 253) && ((Asc.split l 46).all Url.isLabel && (!Asc.digForm (Url.lastP (Asc.split l 46)) || Url.isAddr (Asc.split l 46))))) := rfl
  have hps := Asc.split_pos 46 l
  have hpl := Asc.split_len 46 l
  have HP : Hid (∀ p ∈ Asc.split l 46, p.length ≤ l.length) := Asc.split_part 46 l
  have call : ∀ W : World, Calls Tryz.prog 135 #[.string (str l), .int .u8 46] W fun e w' => ∃ v, e = .returned v ∧ OwnsTexts w' W.heap.size v (Asc.split l 46) ∧ Below W.heap.size W w' := by
    intro W
    have := RSplit_any (str l) 46 W (by rw [str_size]; exact hz)
    rw [str_data] at this
    exact this
  obtain ⟨ps, hp⟩ : ∃ ps, Asc.split l 46 = ps := ⟨_, rfl⟩
  rw [hp] at HS hps hpl HP call
  have hlast := last_get ps (List.length_pos_iff.1 hps)
  have HLAST : Hid _ := hlast
  clear hp hlast
  go_enter Tryz.func101, Tryz.ntmps101
  go_wp2_with (go_at_call 135; refine (call _).mono ?_; rintro e w1 ⟨v, rfl, hown, hb1⟩; have hrd := hown.reads; clear hown; obtain ⟨a1, c1, rfl⟩ := hrd.form)
  have HRD : Hid (ReadsTexts w1 (.slice a1 ps.length c1) ps) := hrd
  clear hrd call
  go_loopw [4] (fun i wr => ∃ k : Nat, k ≤ ps.length ∧ i = .int .i64 k ∧ Hid ((ps.take k).all Url.isLabel = true) ∧ wr = w1) (fun i _ => ps.length - (intOf i).toNat)
  case atStart => exact ⟨0, Nat.zero_le _, rfl, rfl, rfl⟩
  case round =>
    obtain ⟨k, hk, rfl, HA, hw⟩ := hrel
    subst hw
    by_cases hlt : k < ps.length
    · obtain ⟨t, ht⟩ : ∃ t, ps[k]? = some t := ⟨_, List.getElem?_eq_getElem hlt⟩
      obtain ⟨b, o, rfl, hc, hbl, g1⟩ := ReadsTexts.at HRD.out ht
      have htl := HP.out t (List.mem_of_getElem? ht)
      have hnx := allT_next Url.isLabel ps k t ht
      have hno := allT_not Url.isLabel ps k t ht
      have hts := str_size t
      have HNO : Hid (Url.isLabel t = false → Url.isName l = false) := by
        intro h
        rw [HS.out, hno h]
        simp
      have HYES : Hid (Url.isLabel t = true → (ps.take (k + 1)).all Url.isLabel = true) := by
        intro h
        rw [hnx, HA.out, h]
        rfl
      clear ht hnx hno
      by_cases h1 : t.length < 1
      · have h1' : (t.length : Int) < 1 := by omega
        have HN := HNO.out (by unfold Url.isLabel; rw [decide_eq_false (by omega), Bool.and_false])
        have HN2 : Hid _ := HN
        clear HN h1
        go_wp2
        go_ret
        exact ⟨by rw [HN2.out]; rfl, hb1⟩
      · have h1' : ¬ (t.length : Int) < 1 := by omega
        by_cases h63 : 63 < t.length
        · have h63' : (63 : Int) < (t.length : Int) := by omega
          have HN := HNO.out (by unfold Url.isLabel; rw [decide_eq_false (by omega), Bool.and_false])
          have HN2 : Hid _ := HN
          clear HN h1 h63
          go_wp2
          go_ret
          exact ⟨by rw [HN2.out]; rfl, hb1⟩
        · have h63' : ¬ (63 : Int) < (t.length : Int) := by omega
          have HLB : Hid (Url.isLabel t = t.all Url.nameB) := by
            show _ = _
            unfold Url.isLabel
            rw [decide_eq_true (by omega), Bool.and_true]
          clear h1 h63
          rename World => W1
          go_wp2
          go_loopw [5] (fun j wr => ∃ m : Nat, m ≤ t.length ∧ j = .int .i64 m ∧ Hid ((t.take m).all Url.nameB = true) ∧ wr = W1) (fun j _ => t.length - (intOf j).toNat)
          case atStart => exact ⟨0, Nat.zero_le _, rfl, rfl, rfl⟩
          case round =>
            obtain ⟨m, hm, rfl, HM, hw⟩ := hrel
            subst hw
            by_cases hmt : m < t.length
            · have hat : ∀ h : m < (str t).size, (str t)[m]'h = t[m] := fun _ => rfl
              have hnx := all_next Url.nameB t m hmt
              have hno := all_not Url.nameB t m hmt
              obtain ⟨c, hcc⟩ : ∃ c, t[m] = c := ⟨_, rfl⟩
              rw [hcc] at hnx hno
              have hat2 : ∀ h : m < (str t).size, (str t)[m]'h = c := fun h => (hat h).trans hcc
              clear hat hcc
              cases hn : Url.nameB c
              · have HN : Hid (Url.isName l = false) := HNO.out (HLB.out.trans (hno hn))
                obtain ⟨n1, n2, n3, n4⟩ := nameB_no hn
                clear hnx hno hn
                rcases n4 with n4 | ⟨n4, n5⟩
                all_goals
                  go_wp2_with (go_at_call 69; refine (RIsDigit_b c _).mono ?_; rintro e w2 ⟨rfl, hw2⟩; rw [hw2, n1]; clear hw2)
                  go_ret
                  exact ⟨by rw [HN.out]; rfl, hb1⟩
              · have HN : Hid ((t.take (m + 1)).all Url.nameB = true) := by
                  show _ = _
                  rw [hnx, HM.out, hn]
                  rfl
                have hcs := nameB_yes hn
                clear hnx hno hn
                rcases hcs with ⟨n1, n2⟩ | ⟨n1, n2⟩ | ⟨n1, n2, n3⟩ | ⟨n1, n2, n3, n4⟩
                case inl =>
                  go_wp2
                  go_roundw
                  case rel => exact ⟨m + 1, by omega, by go_num, HN, by trivial⟩
                  case measure => simp [intOf]; omega
                all_goals
                  go_wp2_with (go_at_call 69; refine (RIsDigit_b c _).mono ?_; rintro e w2 ⟨rfl, hw2⟩; rw [hw2, n2]; clear hw2)
                  go_roundw
                  case rel => exact ⟨m + 1, by omega, by go_num, HN, by trivial⟩
                  case measure => simp [intOf]; omega
            · have HN : Hid ((ps.take (k + 1)).all Url.isLabel = true) := HYES.out (by
                have := HM.out
                rw [List.take_of_length_le (by omega)] at this
                rw [HLB.out]
                exact this)
              go_wp2
              go_roundw
              case rel => exact ⟨k + 1, by omega, by go_num, HN, by trivial⟩
              case measure => simp [intOf]; omega
    · have HN : Hid (Url.isName l = (decide (l.length ≤ 253) && (!Asc.digForm (Url.lastP ps) || Url.isAddr ps))) := by
        show _ = _
        have := HA.out
        rw [List.take_of_length_le (by omega)] at this
        rw [HS.out, this, Bool.true_and]
      by_cases hm : l.length ≤ 253
      · have hm2 : ¬ (253 : Int) < (l.length : Int) := by omega
        rw [decide_eq_true hm, Bool.true_and] at HN
        clear hm
        obtain ⟨n, hn⟩ : ∃ n, ps.length = n + 1 := ⟨ps.length - 1, by omega⟩
        have hlast := HLAST.out
        rw [hn, Nat.add_sub_cancel] at hlast
        obtain ⟨b, o, rfl, hc, hbl, g1⟩ := ReadsTexts.at HRD.out hlast
        have htl := HP.out _ (List.mem_of_getElem? hlast)
        obtain ⟨q, hq⟩ : ∃ q, Url.lastP ps = q := ⟨_, rfl⟩
        rw [hq] at g1 htl HN hlast
        clear hq hlast
        have hf := numErr_form q 4611686018427387904
        rename World => W1
        cases hd : Asc.digForm q
        · rw [hd] at HN
          have he := hf.2 hd
          clear hf
          go_wp2_with (go_at_call 72; refine (RNumber_str q _ _ (by omega) (by decide) (by decide)).mono ?_; rintro e w2 ⟨rfl, hw2⟩; rw [hw2, he]; clear hw2)
          go_ret
          exact ⟨by rw [HN.out]; rfl, hb1⟩
        · rw [hd] at HN
          have he : (Asc.numErr q 4611686018427387904 == 3) = false := by
            rw [beq_eq_false_iff_ne]
            intro h
            rw [hf.1 h] at hd
            cases hd
          clear hf
          go_wp2_with (go_at_call 72; refine (RNumber_str q _ _ (by omega) (by decide) (by decide)).mono ?_; rintro e w2 ⟨rfl, hw2⟩; rw [hw2]; clear hw2)
          clear g1 htl he hd
          have HN2 : Hid (Url.isName l = Url.isAddr ps) := by
            show _ = _
            rw [HN.out]
            rfl
          clear HN
          go_loopw [9] (fun i wr => ∃ k : Nat, k ≤ ps.length ∧ i = .int .i64 k ∧ Hid ((ps.take k).all Url.isByte = true) ∧ Below W1.heap.size W1 wr) (fun i _ => ps.length - (intOf i).toNat)
          case atStart => exact ⟨0, Nat.zero_le _, rfl, rfl, Below.refl _ _⟩
          case round =>
            obtain ⟨k, hk, rfl, HA, hbw⟩ := hrel
            by_cases hlt : k < ps.length
            · obtain ⟨t, ht⟩ : ∃ t, ps[k]? = some t := ⟨_, List.getElem?_eq_getElem hlt⟩
              obtain ⟨b', o', he', hc', hbl', h1⟩ := ReadsTexts.at HRD.out ht
              cases he'
              have g1 := (hbw.cell (p := ⟨_, _ + k, none⟩) hbl').trans h1
              have htl := HP.out t (List.mem_of_getElem? ht)
              have hnx := allT_next Url.isByte ps k t ht
              have hno := allT_not Url.isByte ps k t ht
              clear h1 ht
              cases hby : Url.isByte t
              · have HN : Hid (Url.isName l = false) := by
                  show _ = _
                  rw [HN2.out]
                  unfold Url.isAddr
                  rw [hno hby]
                  rfl
                clear hnx hno
                go_wp2_with (go_at_call 136; refine (Rnumber_any t _ (by omega)).mono ?_; rintro e w2 ⟨rfl, hb2⟩; rw [hby])
                go_ret
                exact ⟨by rw [HN.out]; rfl, bel hb1 (bel hbw hb2)⟩
              · have HN : Hid ((ps.take (k + 1)).all Url.isByte = true) := by
                  show _ = _
                  rw [hnx, HA.out, hby]
                  rfl
                clear hnx hno
                go_wp2_with (go_at_call 136; refine (Rnumber_any t _ (by omega)).mono ?_; rintro e w2 ⟨rfl, hb2⟩; rw [hby])
                go_roundw
                case rel => exact ⟨k + 1, by omega, by go_num, HN, bel hbw hb2⟩
                case measure => simp [intOf]; omega
            · have HN : Hid (Url.isName l = decide (ps.length = 4)) := by
                show _ = _
                have := HA.out
                rw [List.take_of_length_le (by omega)] at this
                rw [HN2.out]
                unfold Url.isAddr
                rw [this, Bool.true_and]
              go_wp2
              go_ret
              exact ⟨by rw [HN.out]; exact ret_bool (by rw [Bool.eq_iff_iff]; simp; omega), bel hb1 hbw⟩
      · have hm2 : (253 : Int) < (l.length : Int) := by omega
        have HN2 : Hid (Url.isName l = false) := by
          show _ = _
          rw [HN.out, decide_eq_false hm]
          rfl
        clear hm
        go_wp2
        go_ret
        exact ⟨by rw [HN2.out]; rfl, hb1⟩
theorem RUnmark_str (l : List UInt8) (w : World) (hs : l.length ≤ 1000000000) :
    Calls Tryz.prog 100 #[.string (str l)] w fun e w' => e = .returned (.string (str (Pct.unmark l))) ∧ Below w.heap.size w w' := by
  have := RUnmark_any (str l) w (by rw [str_size]; exact hs)
  rw [str_data] at this
  exact this
set_option maxHeartbeats 2000000 in
set_option maxRecDepth 100000 in
theorem RHost_any (l : List UInt8) (w : World) (hz : l.length ≤ 1000000000) :
    Calls Tryz.prog 71 #[.string (str l)] w fun e w' => e = .returned (.tuple #[.string (str (Url.host l)), .int .i64 (Url.hostE l)]) ∧ Below w.heap.size w w' := by
  have hul := Pct.unmark_len l
  have hll := hostT_len l
  have lowc : ∀ W : World, Calls Tryz.prog 37 #[.string (str (Pct.unmark l))] W fun e w' => e = .returned (.string (str (Url.hostT l))) ∧ Below W.heap.size W w' := fun W => RLower_str _ W (by omega)
  by_cases h0 : Url.hostT l = []
  · have HS : Hid (Url.hostE l = 4 ∧ Url.host l = []) := by
      have : Url.hostE l = 4 := by unfold Url.hostE; rw [if_pos h0]
      exact ⟨this, by unfold Url.host; rw [this]; rfl⟩
    have he := empty_is h0
    clear h0
    go_enter Tryz.func71, Tryz.ntmps71
    go_wp2_with (first
      | (go_at_call 100; refine (RUnmark_str l _ hz).mono ?_; rintro e w1 ⟨rfl, hb1⟩)
      | (go_at_call 37; refine (lowc _).mono ?_; rintro e w2 ⟨rfl, hb2⟩))
    go_ret2
    exact ⟨by rw [HS.out.1, HS.out.2]; rfl, bel hb1 hb2⟩
  · have he := empty_isnt h0
    cases hn : Url.isName (Url.hostT l)
    · have HS : Hid (Url.hostE l = 17 ∧ Url.host l = []) := by
        have : Url.hostE l = 17 := by unfold Url.hostE; rw [if_neg h0, hn]; rfl
        exact ⟨this, by unfold Url.host; rw [this]; rfl⟩
      clear h0
      go_enter Tryz.func71, Tryz.ntmps71
      go_wp2_with (first
        | (go_at_call 100; refine (RUnmark_str l _ hz).mono ?_; rintro e w1 ⟨rfl, hb1⟩)
        | (go_at_call 37; refine (lowc _).mono ?_; rintro e w2 ⟨rfl, hb2⟩)
        | (go_at_call 101; refine (RName_any _ _ (by omega)).mono ?_; rw [hn]; rintro e w3 ⟨rfl, hb3⟩))
      go_ret2
      exact ⟨by rw [HS.out.1, HS.out.2]; rfl, bel (bel hb1 hb2) hb3⟩
    · have HS : Hid (Url.hostE l = 0 ∧ Url.host l = Url.hostT l) := by
        have : Url.hostE l = 0 := by unfold Url.hostE; rw [if_neg h0, hn]; rfl
        exact ⟨this, by unfold Url.host; rw [this]; rfl⟩
      clear h0
      go_enter Tryz.func71, Tryz.ntmps71
      go_wp2_with (first
        | (go_at_call 100; refine (RUnmark_str l _ hz).mono ?_; rintro e w1 ⟨rfl, hb1⟩)
        | (go_at_call 37; refine (lowc _).mono ?_; rintro e w2 ⟨rfl, hb2⟩)
        | (go_at_call 101; refine (RName_any _ _ (by omega)).mono ?_; rw [hn]; rintro e w3 ⟨rfl, hb3⟩))
      go_ret2
      exact ⟨by rw [HS.out.1, HS.out.2]; rfl, bel (bel hb1 hb2) hb3⟩
end Go.Proofs.YtnmkhbelmdokmaaGreatDoor
