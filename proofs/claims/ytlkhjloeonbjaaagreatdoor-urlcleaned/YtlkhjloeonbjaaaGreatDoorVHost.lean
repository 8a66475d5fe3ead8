/- The contracts of package url's isNameByte, isLabel, isDigits, isAddress, isName, Host. -/
import Derived.Test.YtlkhjloeonbjaaaGreatDoorVScheme
import Derived.Test.YtlkhjloeonbjaaaGreatDoorVTexts
import Derived.Test.YtlkhjloeonbjaaaGreatDoorQNum
import Derived.Test.YtlkhjloeonbjaaaGreatDoorPUnmark
namespace Go.Proofs.YtlkhjloeonbjaaaGreatDoor
open Go.RowKit
set_option maxHeartbeats 1000000 in
theorem isNameByte_any (c : UInt8) (w : World) :
    Calls Tryz.prog 98 #[.int .u8 c.toNat] w fun e w' => e = .returned (.bool (Url.nameB c)) ∧ w' = w := by
  by_cases ha : 97 ≤ (c.toNat : Int) ∧ (c.toNat : Int) ≤ 122
  · have HS : Hid (Url.nameB c = true) := by
      show _ = _
      unfold Url.nameB
      rw [decide_eq_true (by omega)]
      rfl
    obtain ⟨h1, h2⟩ := ha
    go_enter Tryz.func98, Tryz.ntmps98
    go_wp2
    go_ret
    exact ⟨by rw [HS.out]; rfl, rfl⟩
  · have HS : Hid (Url.nameB c = (Url.isDig c || c == 45 || c == 95)) := by
      show _ = _
      unfold Url.nameB
      rw [decide_eq_false (by omega)]
      simp
    have e45 : ∀ m : UInt8, ((c.toNat : Int) == (m.toNat : Int)) = (c == m) := by
      intro m
      rw [Bool.eq_iff_iff]
      simp only [beq_iff_eq]
      exact ⟨fun h => byte_is c m h, fun h => by rw [h]⟩
    have e1 : ((c.toNat : Int) == 45) = (c == 45) := e45 45
    have e2 : ((c.toNat : Int) == 95) = (c == 95) := e45 95
    clear e45
    rcases (show (c.toNat : Int) < 97 ∨ (97 ≤ (c.toNat : Int) ∧ ¬ (c.toNat : Int) ≤ 122) from by omega) with h | ⟨h, h'⟩
    all_goals
      clear ha
      cases hd : Url.isDig c
      · cases h45 : c == 45
        · rw [hd, h45] at HS
          rw [h45] at e1
          go_enter Tryz.func98, Tryz.ntmps98
          go_wp2_with (go_at_call 116; refine (IsDigit_b c _).mono ?_; rintro e w1 ⟨rfl, hw1⟩; rw [hw1, hd]; clear hw1)
          go_ret
          exact ⟨by rw [HS.out]; first | rfl | (simp only [Bool.false_or]; rw [← e2]; rfl), rfl⟩
        · rw [hd, h45] at HS
          rw [h45] at e1
          go_enter Tryz.func98, Tryz.ntmps98
          go_wp2_with (go_at_call 116; refine (IsDigit_b c _).mono ?_; rintro e w1 ⟨rfl, hw1⟩; rw [hw1, hd]; clear hw1)
          go_ret
          exact ⟨by rw [HS.out]; rfl, rfl⟩
      · rw [hd] at HS
        go_enter Tryz.func98, Tryz.ntmps98
        go_wp2_with (go_at_call 116; refine (IsDigit_b c _).mono ?_; rintro e w1 ⟨rfl, hw1⟩; rw [hw1, hd]; clear hw1)
        go_ret
        exact ⟨by rw [HS.out]; rfl, rfl⟩
set_option maxHeartbeats 1000000 in
theorem isLabel_any (l : List UInt8) (w : World) (hz : l.length ≤ 1000000000) :
    Calls Tryz.prog 70 #[.string (str l)] w fun e w' => e = .returned (.bool (Url.isLabel l)) ∧ w' = w := by
  have hsz := str_size l
  go_enter Tryz.func70, Tryz.ntmps70
  go_wp2
  go_loopw [6] (fun i wr => ∃ k : Nat, k ≤ l.length ∧ i = .int .i64 k ∧ Hid ((l.take k).all Url.nameB = true) ∧ wr = w) (fun i _ => l.length - (intOf i).toNat)
  case atStart => exact ⟨0, Nat.zero_le _, rfl, rfl, rfl⟩
  case round =>
    obtain ⟨k, hk, rfl, HA, rfl⟩ := hrel
    by_cases hlt : k < l.length
    · have hat : ∀ h : k < (str l).size, (str l)[k]'h = l[k] := fun _ => rfl
      have hnx := all_next Url.nameB l k hlt
      have hno := all_not Url.nameB l k hlt
      cases hp : Url.nameB l[k]
      · have HN : Hid (Url.isLabel l = false) := by
          show _ = _
          unfold Url.isLabel
          rw [hno hp]
          rfl
        clear hno hnx
        go_wp2_with (go_at_call 98; refine (isNameByte_any l[k] _).mono ?_; rintro e w1 ⟨rfl, hw1⟩; rw [hw1, hp]; clear hw1)
        go_ret
        exact ⟨by rw [HN.out]; rfl, rfl⟩
      · have HN : Hid ((l.take (k + 1)).all Url.nameB = true) := by
          show _ = _
          rw [hnx, HA.out, hp]
          rfl
        clear hno hnx
        go_wp2_with (go_at_call 98; refine (isNameByte_any l[k] _).mono ?_; rintro e w1 ⟨rfl, hw1⟩; rw [hw1, hp]; clear hw1)
        go_roundw
        case rel => exact ⟨k + 1, by omega, by go_num, HN, by trivial⟩
        case measure => simp [intOf]; omega
    · have HS : Hid (Url.isLabel l = decide (1 ≤ l.length ∧ l.length ≤ 63)) := by
        show _ = _
        have := HA.out
        rw [List.take_of_length_le (by omega)] at this
        unfold Url.isLabel
        rw [this, Bool.true_and]
      by_cases h1 : (1 : Int) ≤ (l.length : Int)
      · go_wp2
        go_ret
        exact ⟨by rw [HS.out]; exact ret_bool (by rw [decide_eq_decide]; omega), rfl⟩
      · go_wp2
        go_ret
        exact ⟨by rw [HS.out]; exact ret_bool (decide_eq_false (by omega)).symm, rfl⟩
theorem Number_str (l : List UInt8) (most : Int) (w : World) (hs : l.length ≤ 1000000000) (hm1 : most ≤ 9223372036854775807) :
    Calls Tryz.prog 92 #[.string (str l), .int .i64 most] w fun e w' => e = .returned (.tuple #[.int .i64 (Asc.numNum l most), .int .i64 (Asc.numErr l most)]) ∧ w' = w := by
  have := Number_any (str l) most w (by rw [str_size]; exact hs) hm1
  rw [str_data] at this
  exact this
theorem Text_str (n : Int) (w : World) (h0 : -9223372036854775808 ≤ n) (h1 : n ≤ 9223372036854775807) (hT : Pow w) :
    Calls Tryz.prog 55 #[.int .i64 n] w fun e w' => e = .returned (.string (str (Lib.itoa n))) ∧ Below w.heap.size w w' := Text_any n w h0 h1 hT
theorem numErr_form (l : List UInt8) (most : Int) : Asc.numErr l most = 3 ↔ Asc.digForm l = false := by
  unfold Asc.numErr
  cases Asc.digForm l
  · simp
  · simp only [if_true]
    split
    · simp
    · split <;> simp
set_option maxHeartbeats 1000000 in
theorem isDigits_any (l : List UInt8) (w : World) (hz : l.length ≤ 1000000000) :
    Calls Tryz.prog 71 #[.string (str l)] w fun e w' => e = .returned (.bool (Asc.digForm l)) ∧ w' = w := by
  have hf := numErr_form l 0
  have HS : Hid ((Asc.numErr l 0 != 3) = Asc.digForm l) := by
    show _ = _
    cases hd : Asc.digForm l
    · rw [hf.2 hd]; rfl
    · rw [bne_iff_ne]
      intro h
      rw [hf.1 h] at hd
      cases hd
  clear hf
  go_enter Tryz.func71, Tryz.ntmps71
  go_wp2_with (go_at_call 92; refine (Number_str l 0 _ hz (by decide)).mono ?_; rintro e w1 ⟨rfl, hw1⟩; rw [hw1]; clear hw1)
  go_ret
  exact ⟨by rw [← HS.out]; rfl, rfl⟩
theorem allT_next (p : List UInt8 → Bool) (l : List (List UInt8)) (k : Nat) (t : List UInt8) (h : l[k]? = some t) : (l.take (k + 1)).all p = ((l.take k).all p && p t) := by
  rw [List.take_add_one, h]
  simp [List.all_append]
theorem allT_not (p : List UInt8 → Bool) (l : List (List UInt8)) (k : Nat) (t : List UInt8) (h : l[k]? = some t) (hp : p t = false) : l.all p = false := by
  rw [Bool.eq_false_iff]
  intro ha
  have := List.all_eq_true.1 ha _ (List.mem_of_getElem? h)
  rw [hp] at this
  cases this
theorem eq_str {a b : List UInt8} (h : a = b) : ((str a).toList == (str b).toList) = true := str_beq_yes h
set_option maxHeartbeats 2000000 in
set_option maxRecDepth 100000 in
theorem isAddress_any (v : Value) (ps : List (List UInt8)) (w : World) (hE : Env w) (hv : ReadsTexts w v ps) (hn : ps.length ≤ 1000000000) (hl : ∀ p ∈ ps, p.length ≤ 1000000000) :
    Calls Tryz.prog 72 #[v] w fun e w' => e = .returned (.bool (Url.isAddr ps)) ∧ Below w.heap.size w w' := by
  obtain ⟨a, c, rfl⟩ := hv.form
  have HV : Hid _ := hv
  have HL : Hid _ := hl
  clear hv hl
  go_enter Tryz.func72, Tryz.ntmps72
  go_wp2
  go_loopw [9] (fun i wr => ∃ k : Nat, k ≤ ps.length ∧ i = .int .i64 k ∧ Hid ((ps.take k).all Url.isByte = true) ∧ Below w.heap.size w wr) (fun i _ => ps.length - (intOf i).toNat)
  case atStart => exact ⟨0, Nat.zero_le _, rfl, rfl, Below.refl _ _⟩
  case round =>
    obtain ⟨k, hk, rfl, HA, hbw⟩ := hrel
    by_cases hlt : k < ps.length
    · obtain ⟨t, ht⟩ : ∃ t, ps[k]? = some t := ⟨_, List.getElem?_eq_getElem hlt⟩
      obtain ⟨b, o, rfl, hc, hbl, h1⟩ := ReadsTexts.at HV.out ht
      have g1 := (hbw.cell (p := ⟨b, o + k, none⟩) hbl).trans h1
      have htl := HL.out t (List.mem_of_getElem? ht)
      have hnx := allT_next Url.isByte ps k t ht
      have hno := allT_not Url.isByte ps k t ht
      clear h1
      by_cases he : Asc.numErr t 255 = 0
      · have hrb := Asc.read_back t 255 (by decide) he
        have n0 := hrb.1
        have n1 := hrb.2.1
        clear hrb
        by_cases hi : Lib.itoa (Asc.numNum t 255) = t
        · have HN : Hid ((ps.take (k + 1)).all Url.isByte = true) := by
            show _ = _
            rw [hnx, HA.out]
            unfold Url.isByte
            rw [decide_eq_true he, decide_eq_true hi]
            rfl
          have hq := eq_str hi
          clear hnx hno ht hi
          go_wp2_with (first
            | (go_at_call 92; refine (Number_str t 255 _ htl (by decide)).mono ?_; rintro e w1 ⟨rfl, hw1⟩; rw [hw1, he]; clear hw1)
            | (go_at_call 55; refine (Text_str _ _ (by omega) (by omega) (hE.below hbw).pow).mono ?_; rintro e w2 ⟨rfl, hb2⟩))
          go_roundw
          case rel => exact ⟨k + 1, by omega, by go_num, HN, bel hbw hb2⟩
          case measure => simp [intOf]; omega
        · have HN : Hid (Url.isAddr ps = false) := by
            show _ = _
            unfold Url.isAddr
            rw [hno (by unfold Url.isByte; rw [decide_eq_false hi, Bool.and_false])]
            rfl
          have hq := str_beq_no hi
          clear hnx hno ht hi
          go_wp2_with (first
            | (go_at_call 92; refine (Number_str t 255 _ htl (by decide)).mono ?_; rintro e w1 ⟨rfl, hw1⟩; rw [hw1, he]; clear hw1)
            | (go_at_call 55; refine (Text_str _ _ (by omega) (by omega) (hE.below hbw).pow).mono ?_; rintro e w2 ⟨rfl, hb2⟩))
          go_ret
          exact ⟨by rw [HN.out]; rfl, bel hbw hb2⟩
      · have HN : Hid (Url.isAddr ps = false) := by
          show _ = _
          unfold Url.isAddr
          rw [hno (by unfold Url.isByte; rw [decide_eq_false he]; rfl)]
          rfl
        have he2 : (Asc.numErr t 255 != 0) = true := by rw [bne_iff_ne]; exact he
        clear hnx hno ht he
        go_wp2_with (first
          | (go_at_call 92; refine (Number_str t 255 _ htl (by decide)).mono ?_; rintro e w1 ⟨rfl, hw1⟩; rw [hw1]; clear hw1))
        go_ret
        exact ⟨by rw [HN.out]; rfl, hbw⟩
    · have HN : Hid (Url.isAddr ps = decide (ps.length = 4)) := by
        show _ = _
        have := HA.out
        rw [List.take_of_length_le (by omega)] at this
        unfold Url.isAddr
        rw [this, Bool.true_and]
      go_wp2
      go_ret
      exact ⟨by rw [HN.out]; exact ret_bool (by rw [Bool.eq_iff_iff]; simp; omega), hbw⟩
theorem last_get (ps : List (List UInt8)) (h : ps ≠ []) : ps[ps.length - 1]? = some (Url.lastP ps) := by
  unfold Url.lastP
  rw [List.getLast?_eq_getElem?]
  have := List.length_pos_iff.2 h
  rw [List.getElem?_eq_getElem (by omega)]
  rfl
set_option maxHeartbeats 2000000 in
set_option maxRecDepth 100000 in
theorem isName_any (l : List UInt8) (w : World) (hE : Env w) (hz : l.length ≤ 1000000000) :
    Calls Tryz.prog 38 #[.string (str l)] w fun e w' => e = .returned (.bool (Url.isName l)) ∧ Below w.heap.size w w' := by
  have hsz := str_size l
  by_cases hm : l.length ≤ 253
  · have HS : Hid (Url.isName l = ((Asc.split l 46).all Url.isLabel && (!Asc.digForm (Url.lastP (Asc.split l 46)) || Url.isAddr (Asc.split l 46)))) := by
      show _ = _
      unfold Url.isName
      rw [decide_eq_true hm, Bool.true_and]
    have hps := Asc.split_pos 46 l
    have hpl := Asc.split_len 46 l
    have HP : Hid (∀ p ∈ Asc.split l 46, p.length ≤ l.length) := Asc.split_part 46 l
    have hm2 : ¬ (253 : Int) < (l.length : Int) := by omega
    have call : ∀ W : World, Calls Tryz.prog 47 #[.string (str l), .int .u8 46] W fun e w' => ∃ v, e = .returned v ∧ OwnsTexts w' W.heap.size v (Asc.split l 46) ∧ Below W.heap.size W w' := by
      intro W
      have := Split_any (str l) 46 W (by rw [str_size]; exact hz)
      rw [str_data] at this
      exact this
    obtain ⟨ps, hp⟩ : ∃ ps, Asc.split l 46 = ps := ⟨_, rfl⟩
    rw [hp] at HS hps hpl HP call
    have hlast := last_get ps (List.length_pos_iff.1 hps)
    clear hp
    go_enter Tryz.func38, Tryz.ntmps38
    go_wp2_with (go_at_call 47; refine (call _).mono ?_; rintro e w1 ⟨v, rfl, hown, hb1⟩; have hrd := hown.reads; clear hown; obtain ⟨a1, c1, rfl⟩ := hrd.form)
    have HRD : Hid (ReadsTexts w1 (.slice a1 ps.length c1) ps) := hrd
    clear hrd
    go_loopw [13] (fun i wr => ∃ k : Nat, k ≤ ps.length ∧ i = .int .i64 k ∧ Hid ((ps.take k).all Url.isLabel = true) ∧ wr = w1) (fun i _ => ps.length - (intOf i).toNat)
    case atStart => exact ⟨0, Nat.zero_le _, rfl, rfl, rfl⟩
    case round =>
      obtain ⟨k, hk, rfl, HA, rfl⟩ := hrel
      by_cases hlt : k < ps.length
      · obtain ⟨t, ht⟩ : ∃ t, ps[k]? = some t := ⟨_, List.getElem?_eq_getElem hlt⟩
        obtain ⟨b, o, rfl, hc, hbl, g1⟩ := ReadsTexts.at HRD.out ht
        have htl := HP.out t (List.mem_of_getElem? ht)
        have hnx := allT_next Url.isLabel ps k t ht
        have hno := allT_not Url.isLabel ps k t ht
        clear ht hlast
        cases hla : Url.isLabel t
        · have HN : Hid (Url.isName l = false) := by
            show _ = _
            rw [HS.out, hno hla]
            rfl
          clear hnx hno
          go_wp2_with (go_at_call 70; refine (isLabel_any t _ (by omega)).mono ?_; rintro e w2 ⟨rfl, hw2⟩; rw [hw2, hla]; clear hw2)
          go_ret
          exact ⟨by rw [HN.out]; rfl, hb1⟩
        · have HN : Hid ((ps.take (k + 1)).all Url.isLabel = true) := by
            show _ = _
            rw [hnx, HA.out, hla]
            rfl
          clear hnx hno
          go_wp2_with (go_at_call 70; refine (isLabel_any t _ (by omega)).mono ?_; rintro e w2 ⟨rfl, hw2⟩; rw [hw2, hla]; clear hw2)
          go_roundw
          case rel => exact ⟨k + 1, by omega, by go_num, HN, by trivial⟩
          case measure => simp [intOf]; omega
      · have HN : Hid (Url.isName l = (!Asc.digForm (Url.lastP ps) || Url.isAddr ps)) := by
          show _ = _
          have := HA.out
          rw [List.take_of_length_le (by omega)] at this
          rw [HS.out, this, Bool.true_and]
        obtain ⟨n, hn⟩ : ∃ n, ps.length = n + 1 := ⟨ps.length - 1, by omega⟩
        rw [hn, Nat.add_sub_cancel] at hlast
        obtain ⟨b, o, rfl, hc, hbl, g1⟩ := ReadsTexts.at HRD.out hlast
        have htl := HP.out _ (List.mem_of_getElem? hlast)
        have HR2 := HRD.out
        have hr2 : Hid _ := HR2
        clear HR2 hlast
        obtain ⟨q, hq⟩ : ∃ q, Url.lastP ps = q := ⟨_, rfl⟩
        rw [hq] at g1 htl HN
        clear hq
        cases hd : Asc.digForm q
        · rw [hd] at HN
          go_wp2_with (go_at_call 71; refine (isDigits_any q _ (by omega)).mono ?_; rintro e w2 ⟨rfl, hw2⟩; rw [hw2, hd]; clear hw2)
          go_ret
          exact ⟨by rw [HN.out]; rfl, hb1⟩
        · rw [hd] at HN
          go_wp2_with (first
            | (go_at_call 71; refine (isDigits_any q _ (by omega)).mono ?_; rintro e w2 ⟨rfl, hw2⟩; rw [hw2, hd]; clear hw2)
            | (go_at_call 72; rw [← hn]; refine (isAddress_any _ ps _ (hE.below hb1) hr2.out (by omega) (fun p hp => by have := HP.out p hp; omega)).mono ?_; rintro e w3 ⟨rfl, hb3⟩))
          go_ret
          exact ⟨by rw [HN.out]; rfl, bel hb1 hb3⟩
  · have HS : Hid (Url.isName l = false) := by
      show _ = _
      unfold Url.isName
      rw [decide_eq_false hm]
      rfl
    have hm2 : (253 : Int) < (l.length : Int) := by omega
    go_enter Tryz.func38, Tryz.ntmps38
    go_wp2
    go_ret
    exact ⟨by rw [HS.out]; rfl, Below.refl _ _⟩
theorem Unmark_str (l : List UInt8) (w : World) (hs : l.length ≤ 1000000000) :
    Calls Tryz.prog 37 #[.string (str l)] w fun e w' => e = .returned (.string (str (Pct.unmark l))) ∧ Below w.heap.size w w' := by
  have := Unmark_any (str l) w (by rw [str_size]; exact hs)
  rw [str_data] at this
  exact this
theorem empty_is {l : List UInt8} (h : l = []) : (str l).toList.isEmpty = true := by rw [h, str_list]; rfl
theorem empty_isnt {l : List UInt8} (h : ¬ l = []) : (str l).toList.isEmpty = false := by
  rw [str_list]
  cases l with
  | nil => exact absurd rfl h
  | cons => rfl
theorem hostT_len (l : List UInt8) : (Url.hostT l).length ≤ l.length := by
  unfold Url.hostT
  rw [lower_len']
  exact Pct.unmark_len l
set_option maxHeartbeats 2000000 in
set_option maxRecDepth 100000 in
theorem Host_any (l : List UInt8) (w : World) (hE : Env w) (hz : l.length ≤ 1000000000) :
    Calls Tryz.prog 15 #[.string (str l)] w fun e w' => e = .returned (.tuple #[.string (str (Url.host l)), .int .i64 (Url.hostE l)]) ∧ Below w.heap.size w w' := by
  have hul := Pct.unmark_len l
  have hll := hostT_len l
  have lowc : ∀ W : World, Calls Tryz.prog 36 #[.string (str (Pct.unmark l))] W fun e w' => e = .returned (.string (str (Url.hostT l))) ∧ Below W.heap.size W w' := fun W => Lower_str _ W (by omega)
  by_cases h0 : Url.hostT l = []
  · have HS : Hid (Url.hostE l = 4 ∧ Url.host l = []) := by
      have : Url.hostE l = 4 := by unfold Url.hostE; rw [if_pos h0]
      exact ⟨this, by unfold Url.host; rw [this]; rfl⟩
    have he := empty_is h0
    clear h0
    go_enter Tryz.func15, Tryz.ntmps15
    go_wp2_with (first
      | (go_at_call 37; refine (Unmark_str l _ hz).mono ?_; rintro e w1 ⟨rfl, hb1⟩)
      | (go_at_call 36; refine (lowc _).mono ?_; rintro e w2 ⟨rfl, hb2⟩))
    go_ret2
    exact ⟨by rw [HS.out.1, HS.out.2]; rfl, bel hb1 hb2⟩
  · have he := empty_isnt h0
    cases hn : Url.isName (Url.hostT l)
    · have HS : Hid (Url.hostE l = 17 ∧ Url.host l = []) := by
        have : Url.hostE l = 17 := by unfold Url.hostE; rw [if_neg h0, hn]; rfl
        exact ⟨this, by unfold Url.host; rw [this]; rfl⟩
      clear h0
      go_enter Tryz.func15, Tryz.ntmps15
      go_wp2_with (first
        | (go_at_call 37; refine (Unmark_str l _ hz).mono ?_; rintro e w1 ⟨rfl, hb1⟩)
        | (go_at_call 36; refine (lowc _).mono ?_; rintro e w2 ⟨rfl, hb2⟩)
        | (go_at_call 38; refine (isName_any _ _ (hE.below (bel hb1 hb2)) (by omega)).mono ?_; rw [hn]; rintro e w3 ⟨rfl, hb3⟩))
      go_ret2
      exact ⟨by rw [HS.out.1, HS.out.2]; rfl, bel (bel hb1 hb2) hb3⟩
    · have HS : Hid (Url.hostE l = 0 ∧ Url.host l = Url.hostT l) := by
        have : Url.hostE l = 0 := by unfold Url.hostE; rw [if_neg h0, hn]; rfl
        exact ⟨this, by unfold Url.host; rw [this]; rfl⟩
      clear h0
      go_enter Tryz.func15, Tryz.ntmps15
      go_wp2_with (first
        | (go_at_call 37; refine (Unmark_str l _ hz).mono ?_; rintro e w1 ⟨rfl, hb1⟩)
        | (go_at_call 36; refine (lowc _).mono ?_; rintro e w2 ⟨rfl, hb2⟩)
        | (go_at_call 38; refine (isName_any _ _ (hE.below (bel hb1 hb2)) (by omega)).mono ?_; rw [hn]; rintro e w3 ⟨rfl, hb3⟩))
      go_ret2
      exact ⟨by rw [HS.out.1, HS.out.2]; rfl, bel (bel hb1 hb2) hb3⟩
end Go.Proofs.YtlkhjloeonbjaaaGreatDoor
