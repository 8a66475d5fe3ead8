/- Contracts of package refs' small functions: isOfName, isHexDigit, run, decimal, hexadecimal, goesOn. -/
import Derived.Test.YtdllcnifkiebjaaDoorQNum
import Derived.Test.YtdllcnifkiebjaaDoorShelf
import Derived.Test.YtdllcnifkiebjaaDoorRfA
set_option linter.unusedVariables false
set_option linter.unusedSimpArgs false
namespace Go.Proofs.YtdllcnifkiebjaaDoor
open Go.RowKit
theorem IsLetter_z (c : UInt8) (w : World) :
    Calls Tryd.prog 67 #[.int .u8 c.toNat] w fun e w' => e = .returned (.bool (Rf.letZ (Asc.bt c))) ∧ w' = w := IsLetter_n _ _
theorem IsDigit_z (c : UInt8) (w : World) :
    Calls Tryd.prog 50 #[.int .u8 c.toNat] w fun e w' => e = .returned (.bool (Rf.digB c)) ∧ w' = w := IsDigit_n _ _
set_option maxHeartbeats 400000 in
theorem isOfName_any (c : UInt8) (w : World) :
    Calls Tryd.prog 55 #[.int .u8 c.toNat] w fun e w' => e = .returned (.bool (Rf.ofName c)) ∧ w' = w := by
  have HN : Hid (Rf.ofName c = (Rf.letZ (Asc.bt c) || Rf.digB c)) := rfl
  cases hx : Rf.letZ (Asc.bt c)
  · go_enter Tryd.func55, Tryd.ntmps55
    go_wp2_with (first
      | (go_at_call 67; refine (IsLetter_z c _).mono ?_; rintro e w1 ⟨rfl, hw⟩; rw [hw]; clear hw)
      | (go_at_call 50; refine (IsDigit_z c _).mono ?_; rintro e w1 ⟨rfl, hw⟩; rw [hw]; clear hw))
    go_ret
    exact ⟨ret_bool (by rw [HN.out, hx]; rfl), rfl⟩
  · go_enter Tryd.func55, Tryd.ntmps55
    go_wp2_with (first
      | (go_at_call 67; refine (IsLetter_z c _).mono ?_; rintro e w1 ⟨rfl, hw⟩; rw [hw]; clear hw)
      | (go_at_call 50; refine (IsDigit_z c _).mono ?_; rintro e w1 ⟨rfl, hw⟩; rw [hw]; clear hw))
    go_ret
    exact ⟨ret_bool (by rw [HN.out, hx]; rfl), rfl⟩
theorem hexB_n (c : UInt8) (n : Int) (h : (c.toNat : Int) = n) : Rf.hexB c = Asc.hexOk n := by unfold Rf.hexB Asc.bt; rw [h]
theorem digB_n (c : UInt8) (n : Int) (h : (c.toNat : Int) = n) : Rf.digB c = Asc.isDig n := by unfold Rf.digB Asc.bt; rw [h]
set_option maxHeartbeats 400000 in
theorem isHexDigit_any (c : UInt8) (w : World) :
    Calls Tryd.prog 52 #[.int .u8 c.toNat] w fun e w' => e = .returned (.bool (Rf.hexB c)) ∧ w' = w := by
  have hb := byte_bd c
  have hI := IsDigit_z c
  rw [hexB_n c _ rfl]
  rw [digB_n c _ rfl] at hI
  generalize (c.toNat : Int) = n at hb hI
  obtain ⟨hb0, hb1⟩ := hb
  rcases (show n < 48 ∨ (48 ≤ n ∧ n ≤ 57) ∨ (57 < n ∧ n < 65) ∨ (65 ≤ n ∧ n ≤ 70) ∨ (70 < n ∧ n < 97) ∨ (97 ≤ n ∧ n ≤ 102) ∨ 102 < n from by omega) with h | h | h | h | h | h | h
  · have hd : Asc.isDig n = false := decide_eq_false (by omega)
    have HV : Hid (Asc.hexOk n = false) := by
      show _ = _
      unfold Asc.hexOk
      simp only [ne_eq, Bool.or_eq_true, Bool.or_eq_false_iff, decide_eq_true_eq, decide_eq_false_iff_not]
      omega
    go_enter Tryd.func52, Tryd.ntmps52
    go_wp2_with (go_at_call 50; refine (hI _).mono ?_; rintro e w1 ⟨rfl, hw⟩; rw [hw]; clear hw)
    go_ret
    exact ⟨ret_bool (by first | exact HV.out.symm | (rw [HV.out]; simp; omega)), rfl⟩
  · have hd : Asc.isDig n = true := decide_eq_true (by omega)
    have HV : Hid (Asc.hexOk n = true) := by
      show _ = _
      unfold Asc.hexOk
      simp only [ne_eq, Bool.or_eq_true, Bool.or_eq_false_iff, decide_eq_true_eq, decide_eq_false_iff_not]
      omega
    go_enter Tryd.func52, Tryd.ntmps52
    go_wp2_with (go_at_call 50; refine (hI _).mono ?_; rintro e w1 ⟨rfl, hw⟩; rw [hw]; clear hw)
    go_ret
    exact ⟨ret_bool (by first | exact HV.out.symm | (rw [HV.out]; simp; omega)), rfl⟩
  · have hd : Asc.isDig n = false := decide_eq_false (by omega)
    have HV : Hid (Asc.hexOk n = false) := by
      show _ = _
      unfold Asc.hexOk
      simp only [ne_eq, Bool.or_eq_true, Bool.or_eq_false_iff, decide_eq_true_eq, decide_eq_false_iff_not]
      omega
    go_enter Tryd.func52, Tryd.ntmps52
    go_wp2_with (go_at_call 50; refine (hI _).mono ?_; rintro e w1 ⟨rfl, hw⟩; rw [hw]; clear hw)
    go_ret
    exact ⟨ret_bool (by first | exact HV.out.symm | (rw [HV.out]; simp; omega)), rfl⟩
  · have hd : Asc.isDig n = false := decide_eq_false (by omega)
    have HV : Hid (Asc.hexOk n = true) := by
      show _ = _
      unfold Asc.hexOk
      simp only [ne_eq, Bool.or_eq_true, Bool.or_eq_false_iff, decide_eq_true_eq, decide_eq_false_iff_not]
      omega
    go_enter Tryd.func52, Tryd.ntmps52
    go_wp2_with (go_at_call 50; refine (hI _).mono ?_; rintro e w1 ⟨rfl, hw⟩; rw [hw]; clear hw)
    go_ret
    exact ⟨ret_bool (by first | exact HV.out.symm | (rw [HV.out]; simp; omega)), rfl⟩
  · have hd : Asc.isDig n = false := decide_eq_false (by omega)
    have HV : Hid (Asc.hexOk n = false) := by
      show _ = _
      unfold Asc.hexOk
      simp only [ne_eq, Bool.or_eq_true, Bool.or_eq_false_iff, decide_eq_true_eq, decide_eq_false_iff_not]
      omega
    go_enter Tryd.func52, Tryd.ntmps52
    go_wp2_with (go_at_call 50; refine (hI _).mono ?_; rintro e w1 ⟨rfl, hw⟩; rw [hw]; clear hw)
    go_ret
    exact ⟨ret_bool (by first | exact HV.out.symm | (rw [HV.out]; simp; omega)), rfl⟩
  · have hd : Asc.isDig n = false := decide_eq_false (by omega)
    have HV : Hid (Asc.hexOk n = true) := by
      show _ = _
      unfold Asc.hexOk
      simp only [ne_eq, Bool.or_eq_true, Bool.or_eq_false_iff, decide_eq_true_eq, decide_eq_false_iff_not]
      omega
    go_enter Tryd.func52, Tryd.ntmps52
    go_wp2_with (go_at_call 50; refine (hI _).mono ?_; rintro e w1 ⟨rfl, hw⟩; rw [hw]; clear hw)
    go_ret
    exact ⟨ret_bool (by first | exact HV.out.symm | (rw [HV.out]; simp; omega)), rfl⟩
  · have hd : Asc.isDig n = false := decide_eq_false (by omega)
    have HV : Hid (Asc.hexOk n = false) := by
      show _ = _
      unfold Asc.hexOk
      simp only [ne_eq, Bool.or_eq_true, Bool.or_eq_false_iff, decide_eq_true_eq, decide_eq_false_iff_not]
      omega
    go_enter Tryd.func52, Tryd.ntmps52
    go_wp2_with (go_at_call 50; refine (hI _).mono ?_; rintro e w1 ⟨rfl, hw⟩; rw [hw]; clear hw)
    go_ret
    exact ⟨ret_bool (by first | exact HV.out.symm | (rw [HV.out]; simp; omega)), rfl⟩
theorem tw_stop (p : UInt8 → Bool) (l : List UInt8) (k : Nat) (h : k < l.length) (hk : (l.take k).all p = true) (hp : p l[k] = false) : (l.takeWhile p).length = k := by
  have e : l = l.take k ++ l.drop k := (List.take_append_drop k l).symm
  have hd : l.drop k = l[k] :: l.drop (k + 1) := List.drop_eq_getElem_cons h
  have h1 : l.takeWhile p = l.take k := by
    conv => lhs; rw [e]
    rw [List.takeWhile_append_of_pos (fun a ha => List.all_eq_true.1 hk a ha), hd, List.takeWhile_cons, hp]
    simp
  rw [h1, List.length_take]
  omega
theorem tw_self (p : UInt8 → Bool) : ∀ l : List UInt8, l.all p = true → l.takeWhile p = l
  | [], _ => rfl
  | c :: r, h => by
    rw [List.all_cons, Bool.and_eq_true] at h
    rw [List.takeWhile_cons, h.1, if_pos rfl, tw_self p r h.2]
theorem tw_all (p : UInt8 → Bool) (l : List UInt8) (h : l.all p = true) : (l.takeWhile p).length = l.length := by
  have e := tw_self p l h
  rw [e]
theorem take_all_step (p : UInt8 → Bool) (l : List UInt8) (k : Nat) (h : k < l.length) (hk : (l.take k).all p = true) (hp : p l[k] = true) : (l.take (k + 1)).all p = true := by
  rw [List.take_succ_eq_append_getElem h, List.all_append, hk]
  simp [hp]
theorem str_at (l : List UInt8) (k : Nat) (h : k < (str l).size) : (str l)[k] = l[k]'(by rw [← str_size]; exact h) := rfl
set_option maxHeartbeats 1000000 in
theorem run_dig (s : ByteArray) (w : World) (hs : s.size ≤ 1000000000) :
    Calls Tryd.prog 54 #[.string s, .func (.func 50) #[] #[]] w fun e w' => e = .returned (.int .i64 (s.data.toList.takeWhile Rf.digB).length) ∧ w' = w := by
  go_enter Tryd.func54, Tryd.ntmps54
  go_wp2
  go_loop [8] (fun i => ∃ k : Nat, k ≤ s.size ∧ i = .int .i64 k ∧ Hid ((s.data.toList.take k).all Rf.digB = true)) (fun i => s.size - (intOf i).toNat)
  case atStart => exact ⟨0, Nat.zero_le _, rfl, rfl⟩
  case round =>
    obtain ⟨k, hk, rfl, HE⟩ := hrel
    by_cases hlt : k < s.size
    · have hI := IsDigit_z s[k]
      cases hx : Rf.digB s[k]
      · have HN : Hid ((s.data.toList.takeWhile Rf.digB).length = k) := tw_stop _ _ k hlt HE.out hx
        go_wp2_with (go_at_call 50; refine (hI _).mono ?_; rintro e w1 ⟨rfl, hw⟩; rw [hw]; clear hw)
        go_ret
        exact ⟨ret_int (by rw [HN.out]), rfl⟩
      · have HN : Hid ((s.data.toList.take (k + 1)).all Rf.digB = true) := take_all_step _ _ k hlt HE.out hx
        go_wp2_with (go_at_call 50; refine (hI _).mono ?_; rintro e w1 ⟨rfl, hw⟩; rw [hw]; clear hw)
        go_round
        case rel => exact ⟨k + 1, by omega, by go_num, HN⟩
        case measure => simp [intOf]; omega
    · have HN : Hid ((s.data.toList.takeWhile Rf.digB).length = s.size) := by
        have h := HE.out
        rw [take_all s k (by omega)] at h
        show _ = _
        rw [tw_all _ _ h]
        rfl
      go_wp2
      go_ret
      exact ⟨ret_int (by rw [HN.out]), rfl⟩
set_option maxHeartbeats 1000000 in
theorem run_hex (s : ByteArray) (w : World) (hs : s.size ≤ 1000000000) :
    Calls Tryd.prog 54 #[.string s, .func (.func 52) #[] #[]] w fun e w' => e = .returned (.int .i64 (s.data.toList.takeWhile Rf.hexB).length) ∧ w' = w := by
  go_enter Tryd.func54, Tryd.ntmps54
  go_wp2
  go_loop [8] (fun i => ∃ k : Nat, k ≤ s.size ∧ i = .int .i64 k ∧ Hid ((s.data.toList.take k).all Rf.hexB = true)) (fun i => s.size - (intOf i).toNat)
  case atStart => exact ⟨0, Nat.zero_le _, rfl, rfl⟩
  case round =>
    obtain ⟨k, hk, rfl, HE⟩ := hrel
    by_cases hlt : k < s.size
    · have hI := isHexDigit_any s[k]
      cases hx : Rf.hexB s[k]
      · have HN : Hid ((s.data.toList.takeWhile Rf.hexB).length = k) := tw_stop _ _ k hlt HE.out hx
        go_wp2_with (go_at_call 52; refine (hI _).mono ?_; rintro e w1 ⟨rfl, hw⟩; rw [hw]; clear hw)
        go_ret
        exact ⟨ret_int (by rw [HN.out]), rfl⟩
      · have HN : Hid ((s.data.toList.take (k + 1)).all Rf.hexB = true) := take_all_step _ _ k hlt HE.out hx
        go_wp2_with (go_at_call 52; refine (hI _).mono ?_; rintro e w1 ⟨rfl, hw⟩; rw [hw]; clear hw)
        go_round
        case rel => exact ⟨k + 1, by omega, by go_num, HN⟩
        case measure => simp [intOf]; omega
    · have HN : Hid ((s.data.toList.takeWhile Rf.hexB).length = s.size) := by
        have h := HE.out
        rw [take_all s k (by omega)] at h
        show _ = _
        rw [tw_all _ _ h]
        rfl
      go_wp2
      go_ret
      exact ⟨ret_int (by rw [HN.out]), rfl⟩
set_option maxHeartbeats 1000000 in
theorem run_name (s : ByteArray) (w : World) (hs : s.size ≤ 1000000000) :
    Calls Tryd.prog 54 #[.string s, .func (.func 55) #[] #[]] w fun e w' => e = .returned (.int .i64 (s.data.toList.takeWhile Rf.ofName).length) ∧ w' = w := by
  go_enter Tryd.func54, Tryd.ntmps54
  go_wp2
  go_loop [8] (fun i => ∃ k : Nat, k ≤ s.size ∧ i = .int .i64 k ∧ Hid ((s.data.toList.take k).all Rf.ofName = true)) (fun i => s.size - (intOf i).toNat)
  case atStart => exact ⟨0, Nat.zero_le _, rfl, rfl⟩
  case round =>
    obtain ⟨k, hk, rfl, HE⟩ := hrel
    by_cases hlt : k < s.size
    · have hI := isOfName_any s[k]
      cases hx : Rf.ofName s[k]
      · have HN : Hid ((s.data.toList.takeWhile Rf.ofName).length = k) := tw_stop _ _ k hlt HE.out hx
        go_wp2_with (go_at_call 55; refine (hI _).mono ?_; rintro e w1 ⟨rfl, hw⟩; rw [hw]; clear hw)
        go_ret
        exact ⟨ret_int (by rw [HN.out]), rfl⟩
      · have HN : Hid ((s.data.toList.take (k + 1)).all Rf.ofName = true) := take_all_step _ _ k hlt HE.out hx
        go_wp2_with (go_at_call 55; refine (hI _).mono ?_; rintro e w1 ⟨rfl, hw⟩; rw [hw]; clear hw)
        go_round
        case rel => exact ⟨k + 1, by omega, by go_num, HN⟩
        case measure => simp [intOf]; omega
    · have HN : Hid ((s.data.toList.takeWhile Rf.ofName).length = s.size) := by
        have h := HE.out
        rw [take_all s k (by omega)] at h
        show _ = _
        rw [tw_all _ _ h]
        rfl
      go_wp2
      go_ret
      exact ⟨ret_int (by rw [HN.out]), rfl⟩
theorem numErr_is (l : List UInt8) (m : Int) : Asc.numErr l m = 0 ∨ Asc.numErr l m = 3 ∨ Asc.numErr l m = 5 := by
  unfold Asc.numErr
  repeat' split
  all_goals omega
theorem hexErr_is (l : List UInt8) : Asc.hexErr l = 0 ∨ Asc.hexErr l = 3 ∨ Asc.hexErr l = 5 := by
  unfold Asc.hexErr
  repeat' split
  all_goals omega
theorem numFold_bd (m : Int) : ∀ (l : List UInt8) (n x : Int), Asc.allDig l = true → 0 ≤ n → n ≤ m → Asc.numFold m n l = some x → 0 ≤ x ∧ x ≤ m
  | [], n, x, _, h0, h1, h => by
    rw [Asc.numFold] at h
    cases h
    exact ⟨h0, h1⟩
  | c :: r, n, x, ha, h0, h1, h => by
    have hc := Asc.allDig_at (c :: r) 0 (by simp) ha
    have hc' : 48 ≤ Asc.bt c ∧ Asc.bt c ≤ 57 := hc
    have hr : Asc.allDig r = true := by
      unfold Asc.allDig at *
      rw [List.all_cons, Bool.and_eq_true] at ha
      exact ha.2
    rw [Asc.numFold] at h
    split at h
    · cases h
    · exact numFold_bd m r _ x hr (by omega) (by omega) h
theorem numNum_bd (l : List UInt8) : 0 ≤ Asc.numNum l 4294967295 ∧ Asc.numNum l 4294967295 ≤ 4294967295 := by
  cases hf : Asc.digForm l
  · rw [(Asc.num_form l _ hf).1]; omega
  · cases e : Asc.numFold 4294967295 0 l with
    | none => rw [(Asc.num_many l _ hf (by omega) e).1]; omega
    | some x =>
      rw [(Asc.num_ok l _ x hf (by omega) e).1]
      exact numFold_bd _ l 0 x (Asc.digForm_all l hf) (by omega) (by omega) e
set_option maxHeartbeats 400000 in
theorem decimal_any (s : ByteArray) (w : World) (hs : s.size ≤ 1000000000) :
    Calls Tryd.prog 51 #[.string s] w fun e w' => e = .returned (.int .u32 (Rf.decCap s.data.toList)) ∧ w' = w := by
  have hI := Number_any s 4294967295
  have hb := numNum_bd s.data.toList
  have HD : Hid (Rf.decCap s.data.toList = if Asc.numErr s.data.toList 4294967295 = 0 then Asc.numNum s.data.toList 4294967295 else 4294967295) := rfl
  rcases numErr_is s.data.toList 4294967295 with h | h | h
  all_goals
    rw [h] at hI
    have HE : Hid (Asc.numErr s.data.toList 4294967295 = _) := h
    clear h
    generalize Asc.numNum s.data.toList 4294967295 = x at hb hI HD
    obtain ⟨hb0, hb1⟩ := hb
    go_enter Tryd.func51, Tryd.ntmps51
    go_wp2_with (go_at_call 65; refine (hI _ hs (by omega)).mono ?_; rintro e w1 ⟨rfl, hw⟩; rw [hw]; clear hw)
    go_ret
    refine ⟨ret_int ?_, rfl⟩
    rw [HD.out, HE.out]
    simp
  all_goals omega
set_option maxHeartbeats 400000 in
theorem hexadecimal_any (s : ByteArray) (w : World) (hs : s.size ≤ 1000000000) :
    Calls Tryd.prog 53 #[.string s] w fun e w' => e = .returned (.int .u32 (Rf.hexCap s.data.toList)) ∧ w' = w := by
  have hI := Hex_any s
  have HD : Hid (Rf.hexCap s.data.toList = if Asc.hexErr s.data.toList = 0 then Asc.hexNum s.data.toList else 4294967295) := rfl
  rcases hexErr_is s.data.toList with h | h | h
  all_goals
    rw [h] at hI
    have HE : Hid (Asc.hexErr s.data.toList = _) := h
    clear h
    generalize Asc.hexNum s.data.toList = x at hI HD
    go_enter Tryd.func53, Tryd.ntmps53
    go_wp2_with (go_at_call 66; refine (hI _ hs).mono ?_; rintro e w1 ⟨rfl, hw⟩; rw [hw]; clear hw)
    go_ret
    refine ⟨ret_int ?_, rfl⟩
    rw [HD.out, HE.out]
    simp
set_option maxHeartbeats 400000 in
theorem goesOn_any (l : List UInt8) (w : World) :
    Calls Tryd.prog 56 #[.string (str l)] w fun e w' => e = .returned (.bool (Rf.goesOn l)) ∧ w' = w := by
  have hz := str_size l
  cases l with
  | nil =>
    have hne : ((str ([] : List UInt8)).toList.isEmpty) = true := by rw [str_list]; rfl
    go_enter Tryd.func56, Tryd.ntmps56
    go_wp2
    go_ret
    exact ⟨rfl, rfl⟩
  | cons c r =>
    have hne : ((str (c :: r)).toList.isEmpty) = false := by rw [str_list]; rfl
    have hI := isOfName_any c
    have HG : Hid (Rf.goesOn (c :: r) = (c == 61 || Rf.ofName c)) := rfl
    by_cases hc : c = 61
    · subst hc
      go_enter Tryd.func56, Tryd.ntmps56
      go_wp2_with (go_at_call 55; refine (hI _).mono ?_; rintro e w1 ⟨rfl, hw⟩; rw [hw]; clear hw)
      go_ret
      exact ⟨rfl, rfl⟩
    · have hn : ((c.toNat : Int) == 61) = false := by
        rw [beq_eq_false_iff_ne]
        intro e
        exact hc (UInt8.toNat_inj.1 (by show c.toNat = 61; omega))
      have hn' : ¬ (c.toNat : Int) = 61 := by simpa using hn
      have HC : Hid ((c == 61) = false) := beq_eq_false_iff_ne.2 hc
      clear hc
      go_enter Tryd.func56, Tryd.ntmps56
      go_wp2_with (go_at_call 55; refine (hI _).mono ?_; rintro e w1 ⟨rfl, hw⟩; rw [hw]; clear hw)
      go_ret
      exact ⟨ret_bool (by rw [HG.out, HC.out]; show ((c.toNat : Int) == 61 || _) = _; rw [hn]), rfl⟩
theorem HasPrefix_l (l p : List UInt8) (w : World) :
    Calls Tryd.prog 49 #[.string (str l), .string (str p)] w fun e w' => e = .returned (.bool (p.isPrefixOf l)) ∧ w' = w := by
  have h := Tryd.strings_HasPrefix (str l) (str p) w
  rw [str_data, str_data] at h
  exact h
theorem CutPrefix_l (l p : List UInt8) (w : World) :
    Calls Tryd.prog 27 #[.string (str l), .string (str p)] w fun e w' => e = .returned (.tuple #[.string (str (if p.isPrefixOf l then l.drop p.length else l)), .bool (p.isPrefixOf l)]) ∧ w' = w := by
  have h := Tryd.strings_CutPrefix (str l) (str p) w
  rw [str_data, str_data] at h
  exact h
end Go.Proofs.YtdllcnifkiebjaaDoor
