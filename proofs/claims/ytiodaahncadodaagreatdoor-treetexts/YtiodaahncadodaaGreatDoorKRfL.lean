/- Contracts of refs.encoded and refs.Encode. -/
import Derived.Test.YtiodaahncadodaaGreatDoorKRfGK
set_option linter.unusedVariables false
set_option linter.unusedSimpArgs false
namespace Go.Proofs.YtiodaahncadodaaGreatDoor
open Go.RowKit
def oneV (r : List UInt8 × Nat) : Value := .tuple #[.string (str r.1), .int .i64 r.2]
theorem byte_ne {c : UInt8} {k : Nat} (hk : k < 256) (h : c ≠ UInt8.ofNat k) : ¬ (c.toNat : Int) = (k : Int) := by
  intro e
  apply h
  apply UInt8.toNat_inj.1
  have : (UInt8.ofNat k).toNat = k := by rw [UInt8.toNat_ofNat']; omega
  omega
set_option maxHeartbeats 1000000 in
set_option maxRecDepth 100000 in
theorem encoded_amp_f (t : List UInt8) (w : World) :
    Calls Tryz.prog 133 #[.string (str (38 :: t)), .bool false] w fun e w' => e = .returned (oneV (Rf.one false (38 :: t))) ∧ w' = w := by
  have hsz := str_size (38 :: t)
  rw [List.length_cons] at hsz
  have hP : ∀ W, Calls Tryz.prog 127 #[.string (str (38 :: t)), .string (str [194, 160])] W fun e w' => e = .returned (.bool false) ∧ w' = W := fun W => HasPrefix_l (38 :: t) [194, 160] W
  have HO : Hid (Rf.one false (38 :: t) = ([38,97,109,112,59], 1)) := rfl
  have he1 : (str (38 :: t)).extract 0 1 = str [38] := str_to (38 :: t) 1
  have hhd : ∀ h, (str (38 :: t))[0]'h = 38 := fun _ => rfl
  go_enter Tryz.func133, Tryz.ntmps133
  go_wp2_with (go_at_call 127; refine (hP _).mono ?_; rintro e w1 ⟨rfl, hw⟩; rw [hw]; clear hw)
  go_ret2
  rw [HO.out]
  exact ⟨rfl, rfl⟩
set_option maxHeartbeats 1000000 in
set_option maxRecDepth 100000 in
theorem encoded_cr_f (t : List UInt8) (w : World) :
    Calls Tryz.prog 133 #[.string (str (13 :: t)), .bool false] w fun e w' => e = .returned (oneV (Rf.one false (13 :: t))) ∧ w' = w := by
  have hsz := str_size (13 :: t)
  rw [List.length_cons] at hsz
  have hP : ∀ W, Calls Tryz.prog 127 #[.string (str (13 :: t)), .string (str [194, 160])] W fun e w' => e = .returned (.bool false) ∧ w' = W := fun W => HasPrefix_l (13 :: t) [194, 160] W
  have HO : Hid (Rf.one false (13 :: t) = ([38,35,49,51,59], 1)) := rfl
  have he1 : (str (13 :: t)).extract 0 1 = str [13] := str_to (13 :: t) 1
  have hhd : ∀ h, (str (13 :: t))[0]'h = 13 := fun _ => rfl
  go_enter Tryz.func133, Tryz.ntmps133
  go_wp2_with (go_at_call 127; refine (hP _).mono ?_; rintro e w1 ⟨rfl, hw⟩; rw [hw]; clear hw)
  go_ret2
  rw [HO.out]
  exact ⟨rfl, rfl⟩
set_option maxHeartbeats 1000000 in
set_option maxRecDepth 100000 in
theorem encoded_amp_t (t : List UInt8) (w : World) :
    Calls Tryz.prog 133 #[.string (str (38 :: t)), .bool true] w fun e w' => e = .returned (oneV (Rf.one true (38 :: t))) ∧ w' = w := by
  have hsz := str_size (38 :: t)
  rw [List.length_cons] at hsz
  have hP : ∀ W, Calls Tryz.prog 127 #[.string (str (38 :: t)), .string (str [194, 160])] W fun e w' => e = .returned (.bool false) ∧ w' = W := fun W => HasPrefix_l (38 :: t) [194, 160] W
  have HO : Hid (Rf.one true (38 :: t) = ([38,97,109,112,59], 1)) := rfl
  have he1 : (str (38 :: t)).extract 0 1 = str [38] := str_to (38 :: t) 1
  have hhd : ∀ h, (str (38 :: t))[0]'h = 38 := fun _ => rfl
  go_enter Tryz.func133, Tryz.ntmps133
  go_wp2_with (go_at_call 127; refine (hP _).mono ?_; rintro e w1 ⟨rfl, hw⟩; rw [hw]; clear hw)
  go_ret2
  rw [HO.out]
  exact ⟨rfl, rfl⟩
set_option maxHeartbeats 1000000 in
set_option maxRecDepth 100000 in
theorem encoded_cr_t (t : List UInt8) (w : World) :
    Calls Tryz.prog 133 #[.string (str (13 :: t)), .bool true] w fun e w' => e = .returned (oneV (Rf.one true (13 :: t))) ∧ w' = w := by
  have hsz := str_size (13 :: t)
  rw [List.length_cons] at hsz
  have hP : ∀ W, Calls Tryz.prog 127 #[.string (str (13 :: t)), .string (str [194, 160])] W fun e w' => e = .returned (.bool false) ∧ w' = W := fun W => HasPrefix_l (13 :: t) [194, 160] W
  have HO : Hid (Rf.one true (13 :: t) = ([38,35,49,51,59], 1)) := rfl
  have he1 : (str (13 :: t)).extract 0 1 = str [13] := str_to (13 :: t) 1
  have hhd : ∀ h, (str (13 :: t))[0]'h = 13 := fun _ => rfl
  go_enter Tryz.func133, Tryz.ntmps133
  go_wp2_with (go_at_call 127; refine (hP _).mono ?_; rintro e w1 ⟨rfl, hw⟩; rw [hw]; clear hw)
  go_ret2
  rw [HO.out]
  exact ⟨rfl, rfl⟩
set_option maxHeartbeats 1000000 in
set_option maxRecDepth 100000 in
theorem encoded_lt_f (t : List UInt8) (w : World) :
    Calls Tryz.prog 133 #[.string (str (60 :: t)), .bool false] w fun e w' => e = .returned (oneV (Rf.one false (60 :: t))) ∧ w' = w := by
  have hsz := str_size (60 :: t)
  rw [List.length_cons] at hsz
  have hP : ∀ W, Calls Tryz.prog 127 #[.string (str (60 :: t)), .string (str [194, 160])] W fun e w' => e = .returned (.bool false) ∧ w' = W := fun W => HasPrefix_l (60 :: t) [194, 160] W
  have HO : Hid (Rf.one false (60 :: t) = ([38,108,116,59], 1)) := rfl
  have he1 : (str (60 :: t)).extract 0 1 = str [60] := str_to (60 :: t) 1
  have hhd : ∀ h, (str (60 :: t))[0]'h = 60 := fun _ => rfl
  go_enter Tryz.func133, Tryz.ntmps133
  go_wp2_with (go_at_call 127; refine (hP _).mono ?_; rintro e w1 ⟨rfl, hw⟩; rw [hw]; clear hw)
  go_ret2
  rw [HO.out]
  exact ⟨rfl, rfl⟩
set_option maxHeartbeats 1000000 in
set_option maxRecDepth 100000 in
theorem encoded_lt_t (t : List UInt8) (w : World) :
    Calls Tryz.prog 133 #[.string (str (60 :: t)), .bool true] w fun e w' => e = .returned (oneV (Rf.one true (60 :: t))) ∧ w' = w := by
  have hsz := str_size (60 :: t)
  rw [List.length_cons] at hsz
  have hP : ∀ W, Calls Tryz.prog 127 #[.string (str (60 :: t)), .string (str [194, 160])] W fun e w' => e = .returned (.bool false) ∧ w' = W := fun W => HasPrefix_l (60 :: t) [194, 160] W
  have HO : Hid (Rf.one true (60 :: t) = ([60], 1)) := rfl
  have he1 : (str (60 :: t)).extract 0 1 = str [60] := str_to (60 :: t) 1
  have hhd : ∀ h, (str (60 :: t))[0]'h = 60 := fun _ => rfl
  go_enter Tryz.func133, Tryz.ntmps133
  go_wp2_with (go_at_call 127; refine (hP _).mono ?_; rintro e w1 ⟨rfl, hw⟩; rw [hw]; clear hw)
  go_ret2
  rw [HO.out]
  exact ⟨rfl, rfl⟩
set_option maxHeartbeats 1000000 in
set_option maxRecDepth 100000 in
theorem encoded_gt_f (t : List UInt8) (w : World) :
    Calls Tryz.prog 133 #[.string (str (62 :: t)), .bool false] w fun e w' => e = .returned (oneV (Rf.one false (62 :: t))) ∧ w' = w := by
  have hsz := str_size (62 :: t)
  rw [List.length_cons] at hsz
  have hP : ∀ W, Calls Tryz.prog 127 #[.string (str (62 :: t)), .string (str [194, 160])] W fun e w' => e = .returned (.bool false) ∧ w' = W := fun W => HasPrefix_l (62 :: t) [194, 160] W
  have HO : Hid (Rf.one false (62 :: t) = ([38,103,116,59], 1)) := rfl
  have he1 : (str (62 :: t)).extract 0 1 = str [62] := str_to (62 :: t) 1
  have hhd : ∀ h, (str (62 :: t))[0]'h = 62 := fun _ => rfl
  go_enter Tryz.func133, Tryz.ntmps133
  go_wp2_with (go_at_call 127; refine (hP _).mono ?_; rintro e w1 ⟨rfl, hw⟩; rw [hw]; clear hw)
  go_ret2
  rw [HO.out]
  exact ⟨rfl, rfl⟩
set_option maxHeartbeats 1000000 in
set_option maxRecDepth 100000 in
theorem encoded_gt_t (t : List UInt8) (w : World) :
    Calls Tryz.prog 133 #[.string (str (62 :: t)), .bool true] w fun e w' => e = .returned (oneV (Rf.one true (62 :: t))) ∧ w' = w := by
  have hsz := str_size (62 :: t)
  rw [List.length_cons] at hsz
  have hP : ∀ W, Calls Tryz.prog 127 #[.string (str (62 :: t)), .string (str [194, 160])] W fun e w' => e = .returned (.bool false) ∧ w' = W := fun W => HasPrefix_l (62 :: t) [194, 160] W
  have HO : Hid (Rf.one true (62 :: t) = ([62], 1)) := rfl
  have he1 : (str (62 :: t)).extract 0 1 = str [62] := str_to (62 :: t) 1
  have hhd : ∀ h, (str (62 :: t))[0]'h = 62 := fun _ => rfl
  go_enter Tryz.func133, Tryz.ntmps133
  go_wp2_with (go_at_call 127; refine (hP _).mono ?_; rintro e w1 ⟨rfl, hw⟩; rw [hw]; clear hw)
  go_ret2
  rw [HO.out]
  exact ⟨rfl, rfl⟩
set_option maxHeartbeats 1000000 in
set_option maxRecDepth 100000 in
theorem encoded_qu_f (t : List UInt8) (w : World) :
    Calls Tryz.prog 133 #[.string (str (34 :: t)), .bool false] w fun e w' => e = .returned (oneV (Rf.one false (34 :: t))) ∧ w' = w := by
  have hsz := str_size (34 :: t)
  rw [List.length_cons] at hsz
  have hP : ∀ W, Calls Tryz.prog 127 #[.string (str (34 :: t)), .string (str [194, 160])] W fun e w' => e = .returned (.bool false) ∧ w' = W := fun W => HasPrefix_l (34 :: t) [194, 160] W
  have HO : Hid (Rf.one false (34 :: t) = ([34], 1)) := rfl
  have he1 : (str (34 :: t)).extract 0 1 = str [34] := str_to (34 :: t) 1
  have hhd : ∀ h, (str (34 :: t))[0]'h = 34 := fun _ => rfl
  go_enter Tryz.func133, Tryz.ntmps133
  go_wp2_with (go_at_call 127; refine (hP _).mono ?_; rintro e w1 ⟨rfl, hw⟩; rw [hw]; clear hw)
  go_ret2
  rw [HO.out]
  exact ⟨rfl, rfl⟩
set_option maxHeartbeats 1000000 in
set_option maxRecDepth 100000 in
theorem encoded_qu_t (t : List UInt8) (w : World) :
    Calls Tryz.prog 133 #[.string (str (34 :: t)), .bool true] w fun e w' => e = .returned (oneV (Rf.one true (34 :: t))) ∧ w' = w := by
  have hsz := str_size (34 :: t)
  rw [List.length_cons] at hsz
  have hP : ∀ W, Calls Tryz.prog 127 #[.string (str (34 :: t)), .string (str [194, 160])] W fun e w' => e = .returned (.bool false) ∧ w' = W := fun W => HasPrefix_l (34 :: t) [194, 160] W
  have HO : Hid (Rf.one true (34 :: t) = ([38,113,117,111,116,59], 1)) := rfl
  have he1 : (str (34 :: t)).extract 0 1 = str [34] := str_to (34 :: t) 1
  have hhd : ∀ h, (str (34 :: t))[0]'h = 34 := fun _ => rfl
  go_enter Tryz.func133, Tryz.ntmps133
  go_wp2_with (go_at_call 127; refine (hP _).mono ?_; rintro e w1 ⟨rfl, hw⟩; rw [hw]; clear hw)
  go_ret2
  rw [HO.out]
  exact ⟨rfl, rfl⟩
set_option maxHeartbeats 2000000 in
set_option maxRecDepth 100000 in
theorem encoded_else (c : UInt8) (t : List UInt8) (a : Bool) (w : World) (h38 : c ≠ 38) (h60 : c ≠ 60) (h62 : c ≠ 62) (h34 : c ≠ 34) (h13 : c ≠ 13) :
    Calls Tryz.prog 133 #[.string (str (c :: t)), .bool a] w fun e w' => e = .returned (oneV (Rf.one a (c :: t))) ∧ w' = w := by
  have hsz := str_size (c :: t)
  rw [List.length_cons] at hsz
  have he1 : (str (c :: t)).extract 0 1 = str [c] := str_to (c :: t) 1
  have hhd : ∀ h, (str (c :: t))[0]'h = c := fun _ => rfl
  have HO : Hid (Rf.one a (c :: t) = if [194,160].isPrefixOf (c :: t) = true then ([38,110,98,115,112,59], 2) else ([c], 1)) := by
    show _ = _
    unfold Rf.one
    simp only [List.take_succ_cons, List.take_zero, List.cons.injEq, and_true, h38, h60, h62, h34, h13, false_and, if_false]
  have q38 : ¬ (c.toNat : Int) = 38 := byte_ne (k := 38) (by omega) h38
  have q60 : ¬ (c.toNat : Int) = 60 := byte_ne (k := 60) (by omega) h60
  have q62 : ¬ (c.toNat : Int) = 62 := byte_ne (k := 62) (by omega) h62
  have q34 : ¬ (c.toNat : Int) = 34 := byte_ne (k := 34) (by omega) h34
  have q13 : ¬ (c.toNat : Int) = 13 := byte_ne (k := 13) (by omega) h13
  have r38 : ((c.toNat : Int) == 38) = false := beq_eq_false_iff_ne.2 q38
  have r60 : ((c.toNat : Int) == 60) = false := beq_eq_false_iff_ne.2 q60
  have r62 : ((c.toNat : Int) == 62) = false := beq_eq_false_iff_ne.2 q62
  have r34 : ((c.toNat : Int) == 34) = false := beq_eq_false_iff_ne.2 q34
  have r13 : ((c.toNat : Int) == 13) = false := beq_eq_false_iff_ne.2 q13
  clear h38 h60 h62 h34 h13
  cases hp : [194,160].isPrefixOf (c :: t)
  · have hP := Pre hp
    have HO' : Hid (Rf.one a (c :: t) = ([c], 1)) := by show _ = _; rw [HO.out, hp]; rfl
    clear hp HO
    go_enter Tryz.func133, Tryz.ntmps133
    go_wp2_with (go_at_call 127; refine (hP _).mono ?_; rintro e w1 ⟨rfl, hw⟩; rw [hw]; clear hw)
    go_ret2
    rw [HO'.out]
    exact ⟨rfl, rfl⟩
  · have hP := Pre hp
    have HO' : Hid (Rf.one a (c :: t) = ([38,110,98,115,112,59], 2)) := by show _ = _; rw [HO.out, hp]; rfl
    clear hp HO
    go_enter Tryz.func133, Tryz.ntmps133
    go_wp2_with (go_at_call 127; refine (hP _).mono ?_; rintro e w1 ⟨rfl, hw⟩; rw [hw]; clear hw)
    go_ret2
    rw [HO'.out]
    exact ⟨rfl, rfl⟩
theorem encoded_any (c : UInt8) (t : List UInt8) (a : Bool) (w : World) :
    Calls Tryz.prog 133 #[.string (str (c :: t)), .bool a] w fun e w' => e = .returned (oneV (Rf.one a (c :: t))) ∧ w' = w := by
  by_cases h38 : c = 38
  · subst h38
    cases a
    · exact encoded_amp_f t w
    · exact encoded_amp_t t w
  by_cases h60 : c = 60
  · subst h60
    cases a
    · exact encoded_lt_f t w
    · exact encoded_lt_t t w
  by_cases h62 : c = 62
  · subst h62
    cases a
    · exact encoded_gt_f t w
    · exact encoded_gt_t t w
  by_cases h34 : c = 34
  · subst h34
    cases a
    · exact encoded_qu_f t w
    · exact encoded_qu_t t w
  by_cases h13 : c = 13
  · subst h13
    cases a
    · exact encoded_cr_f t w
    · exact encoded_cr_t t w
  exact encoded_else c t a w h38 h60 h62 h34 h13
def EncAt (a : Bool) (l : List UInt8) (w : World) (x : Value) (wr : World) : Prop :=
  ∃ r acc : List UInt8, x = .string (str r) ∧ acc.length + 6 * r.length ≤ 6 * l.length ∧ Lib.IsBuilderF 80 5 w.heap.size w.heap.size (Lib.byteCells acc) wr ∧ Below w.heap.size w wr ∧ Hid (acc ++ Rf.enc a r = Rf.enc a l)
set_option maxHeartbeats 2000000 in
set_option maxRecDepth 100000 in
theorem Encode_any (l : List UInt8) (a : Bool) (w : World) (hz : l.length ≤ 100000000) :
    Calls Tryz.prog 103 #[.string (str l), .bool a] w fun e w' => e = .returned (.string (str (Rf.enc a l))) ∧ Below w.heap.size w w' := by
  go_enter Tryz.func103, Tryz.ntmps103
  go_wp2
  go_loopw [0] (fun x wr => EncAt a l w x wr) (fun x _ => textLen x)
  case atStart => exact ⟨l, [], rfl, by simp, Lib.IsBuilderF.of (Lib.fresh_isBuilder 80 5 w), (Below.refl _ w).alloc (Nat.le_refl _) _, rfl⟩
  case round =>
    obtain ⟨r, acc, rfl, hacc, hI, hbw, HE⟩ := hrel
    have hwz := hbw.size
    have hsr := str_size r
    cases r with
    | nil =>
      have hne : ((str ([] : List UInt8)).toList.isEmpty) = true := by rw [str_list]; rfl
      have HF : Hid (acc = Rf.enc a l) := by
        show _ = _
        rw [← HE.out, Rf.enc_nil, List.append_nil]
      clear HE
      go_wp2_with (go_at_call 43; refine (Tryz.Builder_String_any_k w.heap.size w.heap.size acc _ hI (by omega)).mono ?_; rintro e W2 ⟨rfl, _, b2, _⟩)
      go_ret
      exact ⟨by rw [← HF.out]; rfl, hbw.trans b2⟩
    | cons c t =>
      have hne : ((str (c :: t)).toList.isEmpty) = false := by rw [str_list]; rfl
      have hlc : (c :: t).length = t.length + 1 := List.length_cons
      have h1 := Rf.one_pos a (c :: t)
      have h2 := Rf.one_len a (c :: t) (by simp)
      have h3 := Rf.one_size a (c :: t)
      have hO := encoded_any c t a
      have HF : Hid (acc ++ (Rf.one a (c :: t)).1 ++ Rf.enc a ((c :: t).drop (Rf.one a (c :: t)).2) = Rf.enc a l) := by
        show _ = _
        rw [← HE.out, Rf.enc_go a (c :: t) (by simp), List.append_assoc]
      clear HE
      generalize Rf.one a (c :: t) = q at *
      obtain ⟨p, n⟩ := q
      simp only at h1 h2 h3 HF
      obtain ⟨h10, h11⟩ := h1
      rw [hlc] at h2 hacc hsr
      have hst : (str (c :: t)).extract n (t.length + 1) = str ((c :: t).drop n) := str_from (c :: t) n
      have hsp := str_size p
      unfold oneV at hO
      simp only at hO
      go_wp2_with fail
      go_at_call 133
      refine (hO _).mono ?_
      rintro e w1 ⟨rfl, hw⟩
      rw [hw]
      clear hw
      go_wp2_with fail
      go_at_call 101
      refine (WriteString_k w.heap.size w.heap.size _ _ _ hI (by rw [Lib.byteCells_length, str_size]; omega) hwz).mono ?_
      rintro e W1 ⟨rfl, g1, b1, k1⟩
      go_wp2
      go_roundw
      case rel =>
        refine ⟨(c :: t).drop n, acc ++ p, by first | rfl | (rw [hst]), ?_, ?_, hbw.trans b1, HF⟩
        · simp only [List.length_append, List.length_drop, List.length_cons]; omega
        · rw [Lib.byteCells_append]
          have e1 : Lib.strCells (str p) = Lib.byteCells p := by rw [← str_data p]; rfl
          rw [← e1]
          exact .inr g1
      case measure => simp only [textLen, str_size, List.length_drop, List.length_cons]; omega
end Go.Proofs.YtiodaahncadodaaGreatDoor
