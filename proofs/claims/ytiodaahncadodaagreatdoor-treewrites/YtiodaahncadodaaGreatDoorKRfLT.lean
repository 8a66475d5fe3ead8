/- Texts laid as one. -/
import Derived.Test.YtiodaahncadodaaGreatDoorKRfGK
import Derived.Test.YtiodaahncadodaaGreatDoorKTkIJ
import Derived.Deep.RegionHeldLaw
/- Contracts of refs.encoded and refs.Encode. -/
set_option linter.unusedVariables false
set_option linter.unusedSimpArgs false
namespace Go.Proofs.YtiodaahncadodaaGreatDoor
open Go.RowKit
def oneV (r : List UInt8 × Nat) : Value := .tuple #[.string (str r.1), .int .i64 r.2]
theorem byte_ne {c : UInt8} {k : Nat} (hk : k < 256) (h : c ≠ UInt8.ofNat k) : ¬ (c.toNat : Int) = (k : Int) := by
  intro e
  apply h
  apply UInt8.toNat_inj.1
  have : (UInt8.ofNat k).toNat = k := by rw [UInt8.toNat_ofNat']; omega
  omega
set_option maxHeartbeats 1000000 in
set_option maxRecDepth 100000 in
theorem encoded_amp_f (t : List UInt8) (w : World) :
    Calls Tryz.prog 133 #[.string (str (38 :: t)), .bool false] w fun e w' => e = .returned (oneV (Rf.one false (38 :: t))) ∧ w' = w := by
  have hsz := str_size (38 :: t)
  rw [List.length_cons] at hsz
  have hP : ∀ W, Calls Tryz.prog 127 #[.string (str (38 :: t)), .string (str [194, 160])] W fun e w' => e = .returned (.bool false) ∧ w' = W := fun W => HasPrefix_l (38 :: t) [194, 160] W
  have HO : Hid (Rf.one false (38 :: t) = ([38,97,109,112,59], 1)) := rfl
  have he1 : (str (38 :: t)).extract 0 1 = str [38] := str_to (38 :: t) 1
  have hhd : ∀ h, (str (38 :: t))[0]'h = 38 := fun _ => rfl
  go_enter Tryz.func133, Tryz.ntmps133
  go_wp2_with (go_at_call 127; refine (hP _).mono ?_; rintro e w1 ⟨rfl, hw⟩; rw [hw]; clear hw)
  go_ret2
  rw [HO.out]
  exact ⟨rfl, rfl⟩
set_option maxHeartbeats 1000000 in
set_option maxRecDepth 100000 in
theorem encoded_cr_f (t : List UInt8) (w : World) :
    Calls Tryz.prog 133 #[.string (str (13 :: t)), .bool false] w fun e w' => e = .returned (oneV (Rf.one false (13 :: t))) ∧ w' = w := by
  have hsz := str_size (13 :: t)
  rw [List.length_cons] at hsz
  have hP : ∀ W, Calls Tryz.prog 127 #[.string (str (13 :: t)), .string (str [194, 160])] W fun e w' => e = .returned (.bool false) ∧ w' = W := fun W => HasPrefix_l (13 :: t) [194, 160] W
  have HO : Hid (Rf.one false (13 :: t) = ([38,35,49,51,59], 1)) := rfl
  have he1 : (str (13 :: t)).extract 0 1 = str [13] := str_to (13 :: t) 1
  have hhd : ∀ h, (str (13 :: t))[0]'h = 13 := fun _ => rfl
  go_enter Tryz.func133, Tryz.ntmps133
  go_wp2_with (go_at_call 127; refine (hP _).mono ?_; rintro e w1 ⟨rfl, hw⟩; rw [hw]; clear hw)
  go_ret2
  rw [HO.out]
  exact ⟨rfl, rfl⟩
set_option maxHeartbeats 1000000 in
set_option maxRecDepth 100000 in
theorem encoded_amp_t (t : List UInt8) (w : World) :
    Calls Tryz.prog 133 #[.string (str (38 :: t)), .bool true] w fun e w' => e = .returned (oneV (Rf.one true (38 :: t))) ∧ w' = w := by
  have hsz := str_size (38 :: t)
  rw [List.length_cons] at hsz
  have hP : ∀ W, Calls Tryz.prog 127 #[.string (str (38 :: t)), .string (str [194, 160])] W fun e w' => e = .returned (.bool false) ∧ w' = W := fun W => HasPrefix_l (38 :: t) [194, 160] W
  have HO : Hid (Rf.one true (38 :: t) = ([38,97,109,112,59], 1)) := rfl
  have he1 : (str (38 :: t)).extract 0 1 = str [38] := str_to (38 :: t) 1
  have hhd : ∀ h, (str (38 :: t))[0]'h = 38 := fun _ => rfl
  go_enter Tryz.func133, Tryz.ntmps133
  go_wp2_with (go_at_call 127; refine (hP _).mono ?_; rintro e w1 ⟨rfl, hw⟩; rw [hw]; clear hw)
  go_ret2
  rw [HO.out]
  exact ⟨rfl, rfl⟩
set_option maxHeartbeats 1000000 in
set_option maxRecDepth 100000 in
theorem encoded_cr_t (t : List UInt8) (w : World) :
    Calls Tryz.prog 133 #[.string (str (13 :: t)), .bool true] w fun e w' => e = .returned (oneV (Rf.one true (13 :: t))) ∧ w' = w := by
  have hsz := str_size (13 :: t)
  rw [List.length_cons] at hsz
  have hP : ∀ W, Calls Tryz.prog 127 #[.string (str (13 :: t)), .string (str [194, 160])] W fun e w' => e = .returned (.bool false) ∧ w' = W := fun W => HasPrefix_l (13 :: t) [194, 160] W
  have HO : Hid (Rf.one true (13 :: t) = ([38,35,49,51,59], 1)) := rfl
  have he1 : (str (13 :: t)).extract 0 1 = str [13] := str_to (13 :: t) 1
  have hhd : ∀ h, (str (13 :: t))[0]'h = 13 := fun _ => rfl
  go_enter Tryz.func133, Tryz.ntmps133
  go_wp2_with (go_at_call 127; refine (hP _).mono ?_; rintro e w1 ⟨rfl, hw⟩; rw [hw]; clear hw)
  go_ret2
  rw [HO.out]
  exact ⟨rfl, rfl⟩
set_option maxHeartbeats 1000000 in
set_option maxRecDepth 100000 in
theorem encoded_lt_f (t : List UInt8) (w : World) :
    Calls Tryz.prog 133 #[.string (str (60 :: t)), .bool false] w fun e w' => e = .returned (oneV (Rf.one false (60 :: t))) ∧ w' = w := by
  have hsz := str_size (60 :: t)
  rw [List.length_cons] at hsz
  have hP : ∀ W, Calls Tryz.prog 127 #[.string (str (60 :: t)), .string (str [194, 160])] W fun e w' => e = .returned (.bool false) ∧ w' = W := fun W => HasPrefix_l (60 :: t) [194, 160] W
  have HO : Hid (Rf.one false (60 :: t) = ([38,108,116,59], 1)) := rfl
  have he1 : (str (60 :: t)).extract 0 1 = str [60] := str_to (60 :: t) 1
  have hhd : ∀ h, (str (60 :: t))[0]'h = 60 := fun _ => rfl
  go_enter Tryz.func133, Tryz.ntmps133
  go_wp2_with (go_at_call 127; refine (hP _).mono ?_; rintro e w1 ⟨rfl, hw⟩; rw [hw]; clear hw)
  go_ret2
  rw [HO.out]
  exact ⟨rfl, rfl⟩
set_option maxHeartbeats 1000000 in
set_option maxRecDepth 100000 in
theorem encoded_lt_t (t : List UInt8) (w : World) :
    Calls Tryz.prog 133 #[.string (str (60 :: t)), .bool true] w fun e w' => e = .returned (oneV (Rf.one true (60 :: t))) ∧ w' = w := by
  have hsz := str_size (60 :: t)
  rw [List.length_cons] at hsz
  have hP : ∀ W, Calls Tryz.prog 127 #[.string (str (60 :: t)), .string (str [194, 160])] W fun e w' => e = .returned (.bool false) ∧ w' = W := fun W => HasPrefix_l (60 :: t) [194, 160] W
  have HO : Hid (Rf.one true (60 :: t) = ([60], 1)) := rfl
  have he1 : (str (60 :: t)).extract 0 1 = str [60] := str_to (60 :: t) 1
  have hhd : ∀ h, (str (60 :: t))[0]'h = 60 := fun _ => rfl
  go_enter Tryz.func133, Tryz.ntmps133
  go_wp2_with (go_at_call 127; refine (hP _).mono ?_; rintro e w1 ⟨rfl, hw⟩; rw [hw]; clear hw)
  go_ret2
  rw [HO.out]
  exact ⟨rfl, rfl⟩
set_option maxHeartbeats 1000000 in
set_option maxRecDepth 100000 in
theorem encoded_gt_f (t : List UInt8) (w : World) :
    Calls Tryz.prog 133 #[.string (str (62 :: t)), .bool false] w fun e w' => e = .returned (oneV (Rf.one false (62 :: t))) ∧ w' = w := by
  have hsz := str_size (62 :: t)
  rw [List.length_cons] at hsz
  have hP : ∀ W, Calls Tryz.prog 127 #[.string (str (62 :: t)), .string (str [194, 160])] W fun e w' => e = .returned (.bool false) ∧ w' = W := fun W => HasPrefix_l (62 :: t) [194, 160] W
  have HO : Hid (Rf.one false (62 :: t) = ([38,103,116,59], 1)) := rfl
  have he1 : (str (62 :: t)).extract 0 1 = str [62] := str_to (62 :: t) 1
  have hhd : ∀ h, (str (62 :: t))[0]'h = 62 := fun _ => rfl
  go_enter Tryz.func133, Tryz.ntmps133
  go_wp2_with (go_at_call 127; refine (hP _).mono ?_; rintro e w1 ⟨rfl, hw⟩; rw [hw]; clear hw)
  go_ret2
  rw [HO.out]
  exact ⟨rfl, rfl⟩
set_option maxHeartbeats 1000000 in
set_option maxRecDepth 100000 in
theorem encoded_gt_t (t : List UInt8) (w : World) :
    Calls Tryz.prog 133 #[.string (str (62 :: t)), .bool true] w fun e w' => e = .returned (oneV (Rf.one true (62 :: t))) ∧ w' = w := by
  have hsz := str_size (62 :: t)
  rw [List.length_cons] at hsz
  have hP : ∀ W, Calls Tryz.prog 127 #[.string (str (62 :: t)), .string (str [194, 160])] W fun e w' => e = .returned (.bool false) ∧ w' = W := fun W => HasPrefix_l (62 :: t) [194, 160] W
  have HO : Hid (Rf.one true (62 :: t) = ([62], 1)) := rfl
  have he1 : (str (62 :: t)).extract 0 1 = str [62] := str_to (62 :: t) 1
  have hhd : ∀ h, (str (62 :: t))[0]'h = 62 := fun _ => rfl
  go_enter Tryz.func133, Tryz.ntmps133
  go_wp2_with (go_at_call 127; refine (hP _).mono ?_; rintro e w1 ⟨rfl, hw⟩; rw [hw]; clear hw)
  go_ret2
  rw [HO.out]
  exact ⟨rfl, rfl⟩
set_option maxHeartbeats 1000000 in
set_option maxRecDepth 100000 in
theorem encoded_qu_f (t : List UInt8) (w : World) :
    Calls Tryz.prog 133 #[.string (str (34 :: t)), .bool false] w fun e w' => e = .returned (oneV (Rf.one false (34 :: t))) ∧ w' = w := by
  have hsz := str_size (34 :: t)
  rw [List.length_cons] at hsz
  have hP : ∀ W, Calls Tryz.prog 127 #[.string (str (34 :: t)), .string (str [194, 160])] W fun e w' => e = .returned (.bool false) ∧ w' = W := fun W => HasPrefix_l (34 :: t) [194, 160] W
  have HO : Hid (Rf.one false (34 :: t) = ([34], 1)) := rfl
  have he1 : (str (34 :: t)).extract 0 1 = str [34] := str_to (34 :: t) 1
  have hhd : ∀ h, (str (34 :: t))[0]'h = 34 := fun _ => rfl
  go_enter Tryz.func133, Tryz.ntmps133
  go_wp2_with (go_at_call 127; refine (hP _).mono ?_; rintro e w1 ⟨rfl, hw⟩; rw [hw]; clear hw)
  go_ret2
  rw [HO.out]
  exact ⟨rfl, rfl⟩
set_option maxHeartbeats 1000000 in
set_option maxRecDepth 100000 in
theorem encoded_qu_t (t : List UInt8) (w : World) :
    Calls Tryz.prog 133 #[.string (str (34 :: t)), .bool true] w fun e w' => e = .returned (oneV (Rf.one true (34 :: t))) ∧ w' = w := by
  have hsz := str_size (34 :: t)
  rw [List.length_cons] at hsz
  have hP : ∀ W, Calls Tryz.prog 127 #[.string (str (34 :: t)), .string (str [194, 160])] W fun e w' => e = .returned (.bool false) ∧ w' = W := fun W => HasPrefix_l (34 :: t) [194, 160] W
  have HO : Hid (Rf.one true (34 :: t) = ([38,113,117,111,116,59], 1)) := rfl
  have he1 : (str (34 :: t)).extract 0 1 = str [34] := str_to (34 :: t) 1
  have hhd : ∀ h, (str (34 :: t))[0]'h = 34 := fun _ => rfl
  go_enter Tryz.func133, Tryz.ntmps133
  go_wp2_with (go_at_call 127; refine (hP _).mono ?_; rintro e w1 ⟨rfl, hw⟩; rw [hw]; clear hw)
  go_ret2
  rw [HO.out]
  exact ⟨rfl, rfl⟩
set_option maxHeartbeats 2000000 in
set_option maxRecDepth 100000 in
theorem encoded_else (c : UInt8) (t : List UInt8) (a : Bool) (w : World) (h38 : c ≠ 38) (h60 : c ≠ 60) (h62 : c ≠ 62) (h34 : c ≠ 34) (h13 : c ≠ 13) :
    Calls Tryz.prog 133 #[.string (str (c :: t)), .bool a] w fun e w' => e = .returned (oneV (Rf.one a (c :: t))) ∧ w' = w := by
  have hsz := str_size (c :: t)
  rw [List.length_cons] at hsz
  have he1 : (str (c :: t)).extract 0 1 = str [c] := str_to (c :: t) 1
  have hhd : ∀ h, (str (c :: t))[0]'h = c := fun _ => rfl
  have HO : Hid (Rf.one a (c :: t) = if [194,160].isPrefixOf (c :: t) = true then ([38,110,98,115,112,59], 2) else ([c], 1)) := by
    show _ = _
    unfold Rf.one
    simp only [List.take_succ_cons, List.take_zero, List.cons.injEq, and_true, h38, h60, h62, h34, h13, false_and, if_false]
  have q38 : ¬ (c.toNat : Int) = 38 := byte_ne (k := 38) (by omega) h38
  have q60 : ¬ (c.toNat : Int) = 60 := byte_ne (k := 60) (by omega) h60
  have q62 : ¬ (c.toNat : Int) = 62 := byte_ne (k := 62) (by omega) h62
  have q34 : ¬ (c.toNat : Int) = 34 := byte_ne (k := 34) (by omega) h34
  have q13 : ¬ (c.toNat : Int) = 13 := byte_ne (k := 13) (by omega) h13
  have r38 : ((c.toNat : Int) == 38) = false := beq_eq_false_iff_ne.2 q38
  have r60 : ((c.toNat : Int) == 60) = false := beq_eq_false_iff_ne.2 q60
  have r62 : ((c.toNat : Int) == 62) = false := beq_eq_false_iff_ne.2 q62
  have r34 : ((c.toNat : Int) == 34) = false := beq_eq_false_iff_ne.2 q34
  have r13 : ((c.toNat : Int) == 13) = false := beq_eq_false_iff_ne.2 q13
  clear h38 h60 h62 h34 h13
  cases hp : [194,160].isPrefixOf (c :: t)
  · have hP := Pre hp
    have HO' : Hid (Rf.one a (c :: t) = ([c], 1)) := by show _ = _; rw [HO.out, hp]; rfl
    clear hp HO
    go_enter Tryz.func133, Tryz.ntmps133
    go_wp2_with (go_at_call 127; refine (hP _).mono ?_; rintro e w1 ⟨rfl, hw⟩; rw [hw]; clear hw)
    go_ret2
    rw [HO'.out]
    exact ⟨rfl, rfl⟩
  · have hP := Pre hp
    have HO' : Hid (Rf.one a (c :: t) = ([38,110,98,115,112,59], 2)) := by show _ = _; rw [HO.out, hp]; rfl
    clear hp HO
    go_enter Tryz.func133, Tryz.ntmps133
    go_wp2_with (go_at_call 127; refine (hP _).mono ?_; rintro e w1 ⟨rfl, hw⟩; rw [hw]; clear hw)
    go_ret2
    rw [HO'.out]
    exact ⟨rfl, rfl⟩
theorem encoded_any (c : UInt8) (t : List UInt8) (a : Bool) (w : World) :
    Calls Tryz.prog 133 #[.string (str (c :: t)), .bool a] w fun e w' => e = .returned (oneV (Rf.one a (c :: t))) ∧ w' = w := by
  by_cases h38 : c = 38
  · subst h38
    cases a
    · exact encoded_amp_f t w
    · exact encoded_amp_t t w
  by_cases h60 : c = 60
  · subst h60
    cases a
    · exact encoded_lt_f t w
    · exact encoded_lt_t t w
  by_cases h62 : c = 62
  · subst h62
    cases a
    · exact encoded_gt_f t w
    · exact encoded_gt_t t w
  by_cases h34 : c = 34
  · subst h34
    cases a
    · exact encoded_qu_f t w
    · exact encoded_qu_t t w
  by_cases h13 : c = 13
  · subst h13
    cases a
    · exact encoded_cr_f t w
    · exact encoded_cr_t t w
  exact encoded_else c t a w h38 h60 h62 h34 h13
def EncAt (a : Bool) (l : List UInt8) (w : World) (x : Value) (wr : World) : Prop :=
  ∃ r acc : List UInt8, x = .string (str r) ∧ acc.length + 6 * r.length ≤ 6 * l.length ∧ Lib.IsBuilderF 80 5 w.heap.size w.heap.size (Lib.byteCells acc) wr ∧ Below w.heap.size w wr ∧ Hid (acc ++ Rf.enc a r = Rf.enc a l)
set_option maxHeartbeats 2000000 in
set_option maxRecDepth 100000 in
theorem Encode_any (l : List UInt8) (a : Bool) (w : World) (hz : l.length ≤ 100000000) :
    Calls Tryz.prog 103 #[.string (str l), .bool a] w fun e w' => e = .returned (.string (str (Rf.enc a l))) ∧ Below w.heap.size w w' := by
  go_enter Tryz.func103, Tryz.ntmps103
  go_wp2
  go_loopw [0] (fun x wr => EncAt a l w x wr) (fun x _ => textLen x)
  case atStart => exact ⟨l, [], rfl, by simp, Lib.IsBuilderF.of (Lib.fresh_isBuilder 80 5 w), (Below.refl _ w).alloc (Nat.le_refl _) _, rfl⟩
  case round =>
    obtain ⟨r, acc, rfl, hacc, hI, hbw, HE⟩ := hrel
    have hwz := hbw.size
    have hsr := str_size r
    cases r with
    | nil =>
      have hne : ((str ([] : List UInt8)).toList.isEmpty) = true := by rw [str_list]; rfl
      have HF : Hid (acc = Rf.enc a l) := by
        show _ = _
        rw [← HE.out, Rf.enc_nil, List.append_nil]
      clear HE
      go_wp2_with (go_at_call 43; refine (Tryz.Builder_String_any_k w.heap.size w.heap.size acc _ hI (by omega)).mono ?_; rintro e W2 ⟨rfl, _, b2, _⟩)
      go_ret
      exact ⟨by rw [← HF.out]; rfl, hbw.trans b2⟩
    | cons c t =>
      have hne : ((str (c :: t)).toList.isEmpty) = false := by rw [str_list]; rfl
      have hlc : (c :: t).length = t.length + 1 := List.length_cons
      have h1 := Rf.one_pos a (c :: t)
      have h2 := Rf.one_len a (c :: t) (by simp)
      have h3 := Rf.one_size a (c :: t)
      have hO := encoded_any c t a
      have HF : Hid (acc ++ (Rf.one a (c :: t)).1 ++ Rf.enc a ((c :: t).drop (Rf.one a (c :: t)).2) = Rf.enc a l) := by
        show _ = _
        rw [← HE.out, Rf.enc_go a (c :: t) (by simp), List.append_assoc]
      clear HE
      generalize Rf.one a (c :: t) = q at *
      obtain ⟨p, n⟩ := q
      simp only at h1 h2 h3 HF
      obtain ⟨h10, h11⟩ := h1
      rw [hlc] at h2 hacc hsr
      have hst : (str (c :: t)).extract n (t.length + 1) = str ((c :: t).drop n) := str_from (c :: t) n
      have hsp := str_size p
      unfold oneV at hO
      simp only at hO
      go_wp2_with fail
      go_at_call 133
      refine (hO _).mono ?_
      rintro e w1 ⟨rfl, hw⟩
      rw [hw]
      clear hw
      go_wp2_with fail
      go_at_call 101
      refine (WriteString_k w.heap.size w.heap.size _ _ _ hI (by rw [Lib.byteCells_length, str_size]; omega) hwz).mono ?_
      rintro e W1 ⟨rfl, g1, b1, k1⟩
      go_wp2
      go_roundw
      case rel =>
        refine ⟨(c :: t).drop n, acc ++ p, by first | rfl | (rw [hst]), ?_, ?_, hbw.trans b1, HF⟩
        · simp only [List.length_append, List.length_drop, List.length_cons]; omega
        · rw [Lib.byteCells_append]
          have e1 : Lib.strCells (str p) = Lib.byteCells p := by rw [← str_data p]; rfl
          rw [← e1]
          exact .inr g1
      case measure => simp only [textLen, str_size, List.length_drop, List.length_cons]; omega
end Go.Proofs.YtiodaahncadodaaGreatDoor
/- The contracts of token.startTag and token.Tag. -/
namespace Go.Proofs.YtiodaahncadodaaGreatDoor
open Go.RowKit
/-- A builder at b with these bytes. -/
def Bd (b : Nat) (acc : List UInt8) (w : World) : Prop := Lib.IsBuilderF 80 5 b b (Lib.byteCells acc) w
theorem Bd.fresh (w : World) : Bd w.heap.size [] (w.alloc (.cells #[.pointer none, .slice none 0 0] 80)) := Lib.IsBuilderF.of (Lib.fresh_isBuilder 80 5 w)
theorem Bd.below {b : Nat} {acc : List UInt8} {w w' : World} (h : Bd b acc w) (hb : Below w.heap.size w w') : Bd b acc w' := by
  rcases h with h | h
  · exact .inl (builder_below h hb)
  · exact .inr (builder_below h hb)
theorem Bd.lt {b : Nat} {acc : List UInt8} {w : World} (h : Bd b acc w) : b < w.heap.size := by
  rcases h with ⟨_, v, hb, _⟩ | ⟨_, v, hb, _⟩
  · exact (Array.getElem?_eq_some_iff.1 hb).1
  · exact (Array.getElem?_eq_some_iff.1 hb).1
theorem strCells_str (s : List UInt8) : Lib.strCells (str s) = Lib.byteCells s := by
  rw [← str_data s]
  rfl
theorem WS_any {b : Nat} {acc : List UInt8} {w : World} (s : List UInt8) (h : Bd b acc w) (hl : acc.length + s.length ≤ 10000000000) :
    Calls Tryz.prog 101 #[.pointer (some ⟨b, 0, none⟩), .string (str s)] w fun e w' => (∃ u, e = .returned u) ∧ Bd b (acc ++ s) w' ∧ Below b w w' ∧ Lib.OthersKept 5 (some b) w w' := by
  refine (WriteString_k b b (Lib.byteCells acc) (str s) w h (by rw [Lib.byteCells_length, str_size]; omega) (Nat.le_of_lt h.lt)).mono ?_
  rintro e w1 ⟨rfl, g1, b1, k1⟩
  refine ⟨⟨_, rfl⟩, ?_, b1, k1⟩
  rw [strCells_str, ← Lib.byteCells_append] at g1
  exact .inr g1
theorem String_any12 {b : Nat} {acc : List UInt8} {w : World} (h : Bd b acc w) (hl : acc.length ≤ 10000000000) :
    Calls Tryz.prog 43 #[.pointer (some ⟨b, 0, none⟩)] w fun e w' => e = .returned (.string (str acc)) ∧ Below b w w' := by
  refine (Tryz.Builder_String_any_k b b acc w h (Nat.le_of_lt h.lt)).mono ?_
  rintro e w2 ⟨rfl, _, b2, _⟩
  exact ⟨rfl, b2⟩
/-- What startTag has written ahead of attribute j. -/
def tagTo (k : Tk.Tok) (j : Nat) : List UInt8 := 60 :: (k.name ++ (k.attrs.take j).flatMap Tk.attrText)
theorem tagTo_zero (k : Tk.Tok) : tagTo k 0 = 60 :: k.name := by simp [tagTo]
theorem tagTo_next (k : Tk.Tok) (j : Nat) (h : j < k.attrs.length) : tagTo k (j + 1) = tagTo k j ++ (32 :: k.attrs[j].1 ++ [61, 34] ++ Rf.enc true k.attrs[j].2 ++ [34]) := by
  unfold tagTo
  rw [List.take_succ_eq_append_getElem h, List.flatMap_append]
  simp [Tk.attrText]
theorem tagTo_end (k : Tk.Tok) (j : Nat) (h : k.attrs.length ≤ j) : tagTo k j ++ (if k.self then [47, 62] else [62]) = 60 :: (k.name ++ Tk.tailText k.attrs k.self) := by
  unfold tagTo Tk.tailText
  rw [List.take_of_length_le h]
  simp
theorem tagTo_len (k : Tk.Tok) (j : Nat) : (tagTo k j).length ≤ (60 :: (k.name ++ Tk.tailText k.attrs k.self)).length := by
  have e : k.attrs.flatMap Tk.attrText = (k.attrs.take j).flatMap Tk.attrText ++ (k.attrs.drop j).flatMap Tk.attrText := by
    rw [← List.flatMap_append, List.take_append_drop]
  unfold tagTo Tk.tailText
  rw [e]
  simp only [List.length_cons, List.length_append]
  omega
theorem str_cat12 (a b : List UInt8) : str a ++ str b = str (a ++ b) := by
  apply str_eq
  rw [ByteArray.data_append, Array.toList_append, str_data, str_data]
theorem str_cat_l (a : ByteArray) (b : List UInt8) : a ++ str b = str (a.data.toList ++ b) := by
  apply str_eq
  rw [ByteArray.data_append, Array.toList_append, str_data]
theorem str_cat_r (a : List UInt8) (b : ByteArray) : str a ++ b = str (a ++ b.data.toList) := by
  apply str_eq
  rw [ByteArray.data_append, Array.toList_append, str_data]
set_option maxHeartbeats 2000000 in
set_option maxRecDepth 100000 in
theorem startTag_any (k : Tk.Tok) (v : Value) (w : World) (hv : ReadsPairs w v k.attrs) (hl : k.attrs.length ≤ 1000000) (hz : (60 :: (k.name ++ Tk.tailText k.attrs k.self)).length ≤ 1000000000) (hz2 : ∀ a ∈ k.attrs, a.1.length ≤ 100000000 ∧ a.2.length ≤ 100000000) :
    Calls Tryz.prog 102 #[tokV k v] w fun e w' => e = .returned (.string (str (60 :: (k.name ++ Tk.tailText k.attrs k.self)))) ∧ Below w.heap.size w w' := by
  obtain ⟨a, c, rfl⟩ := hv.form
  have H0 := tagTo_zero k
  have HL := hideT (fun j => tagTo_len k j)
  have HN := hideT (fun j h => tagTo_next k j h)
  have HE := hideT (fun j h => tagTo_end k j h)
  have hn1 : k.name.length + 1 ≤ 1000000000 := by
    have := tagTo_len k 0
    rw [H0] at this
    rw [List.length_cons] at this
    omega
  have HZ2 := hideT hz2
  have HZ := hideT hz
  generalize (60 :: (k.name ++ Tk.tailText k.attrs k.self)) = out at *
  clear hz hz2
  have HV := hideT hv
  clear hv
  have hsn := str_size k.name
  have hcat : (⟨#[60]⟩ : ByteArray) ++ str k.name = str (tagTo k 0) := by rw [H0, str_cat_l]; rfl
  have hcs : (str (tagTo k 0)).size = k.name.length + 1 := by rw [str_size, H0]; rfl
  have hb0 : Below w.heap.size w (w.alloc (.cells (kCells k.kind k.name (.slice a k.attrs.length c) k.self k.text) 56)) := (Below.refl _ w).alloc (Nat.le_refl _) _
  have t0 : KAt (w.alloc (.cells (kCells k.kind k.name (.slice a k.attrs.length c) k.self k.text) 56)) w.heap.size (kCells k.kind k.name (.slice a k.attrs.length c) k.self k.text) := heap_new w _
  have hs0 : (w.alloc (.cells (kCells k.kind k.name (.slice a k.attrs.length c) k.self k.text) 56)).heap.size = w.heap.size + 1 := by simp
  have hB0 := Bd.fresh (w.alloc (.cells (kCells k.kind k.name (.slice a k.attrs.length c) k.self k.text) 56))
  have hb1 : Below (w.heap.size + 1) (w.alloc (.cells (kCells k.kind k.name (.slice a k.attrs.length c) k.self k.text) 56)) ((w.alloc (.cells (kCells k.kind k.name (.slice a k.attrs.length c) k.self k.text) 56)).alloc (.cells #[.pointer none, .slice none 0 0] 80)) := (Below.refl _ _).alloc (by omega) _
  rw [hs0] at hB0
  have t1 := t0.belowB hb1 (by omega)
  have hb2 := hb0.trans (hb1.mono (by omega))
  go_enter Tryz.func102, Tryz.ntmps102
  go_wp2_with fail
  generalize ((w.alloc (.cells (kCells k.kind k.name (.slice a k.attrs.length c) k.self k.text) 56)).alloc (.cells #[.pointer none, .slice none 0 0] 80)) = W at *
  clear hb0 t0 hs0 hb1
  rw [← H0]
  go_at_call 101
  have hW1 := WS_any (tagTo k 0) hB0 (by simp only [H0, List.length_cons, List.length_nil]; omega)
  rw [List.nil_append] at hW1
  refine hW1.mono ?_
  rintro e w1 ⟨⟨u1, rfl⟩, hB1, hb3, -⟩
  have t2 := t1.belowB hb3 (by omega)
  replace hb2 := hb2.trans (hb3.mono (by omega))
  have hs1 := hb2.size
  clear hW1 hB0 hcat hcs t1 hb3
  have c2 : w1.cell? ⟨w.heap.size, 2, none⟩ = some (.slice a k.attrs.length c) := Lib.cell_of_heap t2 2
  have HB1 := hideT hB1
  have HT2 := hideT t2
  have HB2 := hideT hb2
  clear hB1 t2 hb2
  go_wp2
  clear c2
  go_loopw [13] (fun i wr => ∃ j : Nat, i = .int .i64 j ∧ j ≤ k.attrs.length ∧ Bd (w.heap.size + 1) (tagTo k j) wr ∧ KAt wr w.heap.size (kCells k.kind k.name (.slice a k.attrs.length c) k.self k.text) ∧ Below w.heap.size w wr) (fun i _ => k.attrs.length - (intOf i).toNat)
  case atStart => exact ⟨0, rfl, Nat.zero_le _, HB1.out, HT2.out, HB2.out⟩
  case round =>
    obtain ⟨j, rfl, hj, hB, hT, hb⟩ := hrel
    clear HB1 HT2 HB2
    have hbs := hb.size
    have hBl := hB.lt
    by_cases hjl : j < k.attrs.length
    · have hat : k.attrs[j]? = some k.attrs[j] := List.getElem?_eq_getElem hjl
      obtain ⟨b', o, rfl, hc, hbl, h1, h2⟩ := HV.out.at hat
      have g1 := (hb.cell (p := ⟨b', o + j * 2, none⟩) hbl).trans h1
      have g2 := (hb.cell (p := ⟨b', o + j * 2 + 1, none⟩) hbl).trans h2
      have hz := HZ2.out _ (List.getElem_mem hjl)
      have hE2 := hideT (fun W => Encode_any k.attrs[j].2 true W (by omega))
      have hnx := hideT (HN.out j hjl)
      have hle := HL.out (j + 1)
      have HBj := hideT hB
      have HTj := hideT hT
      have HBb := hideT hb
      clear hat h1 h2 hB hT hb
      generalize k.attrs[j] = p at *
      generalize Rf.enc true p.2 = ev at *
      have hb4 : Below wr.heap.size wr (wr.alloc (.cells #[.string (str p.1), .string (str p.2)] 67)) := (Below.refl _ wr).alloc (Nat.le_refl _) _
      have ha4 : (wr.alloc (.cells #[.string (str p.1), .string (str p.2)] 67)).heap[wr.heap.size]? = some (.cells #[.string (str p.1), .string (str p.2)] 67 (0, 0)) := heap_new wr _
      go_wp2_with fail
      generalize hW4 : (wr.alloc (.cells #[.string (str p.1), .string (str p.2)] 67)) = W4 at *
      have c0 : W4.cell? ⟨wr.heap.size, 0, none⟩ = some (.string (str p.1)) := Lib.cell_of_heap ha4 0
      have c1 : W4.cell? ⟨wr.heap.size, 1, none⟩ = some (.string (str p.2)) := Lib.cell_of_heap ha4 1
      have hB4 := (HBj.out.below hb4).below ((Below.refl _ W4).drew)
      have hT4 := hideT ((HTj.out.step hb4).step ((Below.refl _ W4).drew))
      have hbb4 := hideT ((HBb.out.trans (hb4.mono hbs)).drew)
      have h4s := hb4.size
      have h4lt : wr.heap.size < W4.drew.heap.size := (Array.getElem?_eq_some_iff.1 ha4).1
      obtain ⟨x1, hx1⟩ : ∃ x, x = 32 :: p.1 := ⟨_, rfl⟩
      obtain ⟨x2, hx2⟩ : ∃ x, x = x1 ++ [61, 34] := ⟨_, rfl⟩
      obtain ⟨x3, hx3⟩ : ∃ x, x = x2 ++ ev := ⟨_, rfl⟩
      obtain ⟨x4, hx4⟩ : ∃ x, x = x3 ++ [34] := ⟨_, rfl⟩
      have hnx4 : Hid (tagTo k (j + 1) = tagTo k j ++ x4) := by
        show _ = _
        rw [hnx.out, hx4, hx3, hx2, hx1]
      have hlen4 := congrArg List.length hnx4.out
      rw [List.length_append] at hlen4
      have hZ := HZ.out
      have l1 : x1.length = p.1.length + 1 := by rw [hx1]; rfl
      have l2 : x2.length = x1.length + 2 := by rw [hx2, List.length_append]; rfl
      have l3 : x3.length = x2.length + ev.length := by rw [hx3, List.length_append]
      have l4 : x4.length = x3.length + 1 := by rw [hx4, List.length_append]; rfl
      have q1 : (⟨#[32]⟩ : ByteArray) ++ str p.1 = str x1 := by rw [hx1, str_cat_l]; rfl
      have q2 : str x1 ++ (⟨#[61, 34]⟩ : ByteArray) = str x2 := by rw [hx2, str_cat_r]
      have q3 : str x2 ++ str ev = str x3 := by rw [hx3, str_cat12]
      have q4 : str x3 ++ (⟨#[34]⟩ : ByteArray) = str x4 := by rw [hx4, str_cat_r]
      have s0 := str_size p.1
      have s1 := str_size x1
      have s2 := str_size x2
      have s3 := str_size x3
      have sv := str_size ev
      have d1 : x1.length ≤ 1000000000 := by omega
      have d2 : x2.length ≤ 1000000000 := by omega
      have d3 : x3.length ≤ 1000000000 := by omega
      have dv : ev.length ≤ 1000000000 := by omega
      have d0 : p.1.length ≤ 1000000000 := by omega
      have dj : (tagTo k j).length + x4.length ≤ 10000000000 := by omega
      clear hx1 hx2 hx3 hx4 hnx hle hlen4 hZ l1 l2 l3 l4 HBj HTj HBb hb4 hz
      have n1 : ¬ 9223372036854775807 < 1 + p.1.length := by omega
      have n2 : ¬ 9223372036854775807 < x1.length + 2 := by omega
      have n3 : ¬ 9223372036854775807 < x2.length + ev.length := by omega
      have n4 : ¬ 9223372036854775807 < x3.length + 1 := by omega
      go_region_law (first
        | (go_simp; refine (hE2.out _).mono ?_; rintro e w5 ⟨rfl, hb5⟩; have ha5 := (hb5.block _ h4lt).trans ha4; have cc0 := Lib.cell_of_heap ha5 0)
        | (go_simp; refine (WS_any x4 (hB4.below hb5) dj).mono ?_; rintro e w6 ⟨⟨u6, rfl⟩, hB6, hb6, k6⟩))
      all_goals
        have hBn : Bd (w.heap.size + 1) (tagTo k (j + 1)) w6 := by rw [hnx4.out]; exact hB6
        have hTn := hT4.out.belowB ((hb5.mono (by have := hB4.lt; omega)).trans hb6) (Nat.lt_succ_self _)
        have hbn := (hbb4.out.trans (hb5.mono (by have := hbb4.out.size; exact this))).trans (hb6.mono (Nat.le_succ _))
        go_wp2
        exact ⟨⟨j + 1, by go_num, by omega, hBn, hTn, hbn⟩, by simp [intOf]; omega⟩
    · have HF := hideT (HE.out j (by omega))
      have hlx := HL.out j
      have hZ := HZ.out
      have hB1 := hideT hB
      have hb1 := hideT hb
      have hj2 : ¬ j < k.attrs.length := hjl
      have c3 : wr.cell? ⟨w.heap.size, 3, none⟩ = some (.bool k.self) := Lib.cell_of_heap hT 3
      have lj : (tagTo k j).length ≤ 1000000000 := by omega
      clear hB hT hb HE
      cases hself : k.self
      · rw [hself] at HF c3
        clear hself
        go_wp2_with (first
          | (go_at_call 101; refine (WS_any [62] hB1.out (by simp only [List.length_cons, List.length_nil]; omega)).mono ?_; rintro e w6 ⟨⟨u6, rfl⟩, hB6, hb6, k6⟩; clear k6)
          | (go_at_call 43; refine (String_any12 hB6 (by simp only [List.length_append, List.length_cons, List.length_nil]; omega)).mono ?_; rintro e w7 ⟨rfl, hb7⟩))
        go_ret
        exact ⟨by rw [← HF.out]; rfl, hb1.out.trans ((hb6.trans hb7).mono (Nat.le_succ _))⟩
      · rw [hself] at HF c3
        clear hself
        go_wp2_with fail
        go_at_call 101
        refine (WS_any [47] hB1.out (by simp only [List.length_cons, List.length_nil]; omega)).mono ?_
        rintro e w5 ⟨⟨u5, rfl⟩, hB5, hb5, k5⟩
        clear k5
        go_wp2_with (first
          | (go_at_call 101; refine (WS_any [62] hB5 (by simp only [List.length_append, List.length_cons, List.length_nil]; omega)).mono ?_; rintro e w6 ⟨⟨u6, rfl⟩, hB6, hb6, k6⟩; clear k6)
          | (go_at_call 43; refine (String_any12 hB6 (by simp only [List.length_append, List.length_cons, List.length_nil]; omega)).mono ?_; rintro e w7 ⟨rfl, hb7⟩))
        go_ret
        exact ⟨by rw [← HF.out]; rfl, hb1.out.trans (((hb5.trans hb6).trans hb7).mono (Nat.le_succ _))⟩
/-- What a tag's text asks for: that a builder bears it. -/
structure Bears (k : Tk.Tok) : Prop where
  ats : k.attrs.length ≤ 1000000
  all : (60 :: (k.name ++ Tk.tailText k.attrs k.self)).length ≤ 1000000000
  each : ∀ a ∈ k.attrs, a.1.length ≤ 100000000 ∧ a.2.length ≤ 100000000
  text : k.text.length ≤ 100000000
  name : k.name.length ≤ 1000000000
theorem kind_no {k : Nat} {m : Nat} (h : k ≠ m) : ((k : Int) == (m : Int)) = false := by
  rw [beq_eq_false_iff_ne]
  omega
set_option maxHeartbeats 2000000 in
set_option maxRecDepth 100000 in
theorem Tag_any (k : Tk.Tok) (v : Value) (w : World) (hv : ReadsPairs w v k.attrs) (hz : Bears k) :
    Calls Tryz.prog 68 #[tokV k v] w fun e w' => e = .returned (.string (str (Tk.tagText k))) ∧ Below w.heap.size w w' := by
  obtain ⟨kk, kn, ka, ks, kx⟩ := k
  have HV : Hid (Tk.tagText ⟨kk, kn, ka, ks, kx⟩ = if kk = 1 then 60 :: (kn ++ Tk.tailText ka ks) else if kk = 2 then 60 :: 47 :: (kn ++ [62]) else if kk = 3 then Rf.enc false kx else []) := rfl
  have hb0 : Below w.heap.size w (w.alloc (.cells (kCells kk kn v ks kx) 56)) := (Below.refl _ w).alloc (Nat.le_refl _) _
  have t0 : KAt (w.alloc (.cells (kCells kk kn v ks kx) 56)) w.heap.size (kCells kk kn v ks kx) := heap_new w _
  have hv0 := hv.below hb0
  by_cases h1 : kk = 1
  · subst h1
    have HX : Hid (Tk.tagText ⟨1, kn, ka, ks, kx⟩ = 60 :: (kn ++ Tk.tailText ka ks)) := HV.out
    have hS := startTag_any ⟨1, kn, ka, ks, kx⟩ v _ hv0 hz.ats hz.all hz.each
    simp only at hS
    clear HV hz hv
    go_enter Tryz.func68, Tryz.ntmps68
    go_wp2_with (first
      | (refine wpList_load_K _ rfl rfl w.heap.size _ _ _ _ _ rfl t0 ?_)
      | (go_at_call 102; refine hS.mono ?_; rintro e w1 ⟨rfl, hb1⟩))
    go_ret
    exact ⟨by rw [HX.out]; rfl, hb0.trans (hb1.mono hb0.size)⟩
  have n1 : ((kk : Int) == 1) = false := kind_no h1
  by_cases h2 : kk = 2
  · subst h2
    have HX : Hid (Tk.tagText ⟨2, kn, ka, ks, kx⟩ = 60 :: 47 :: (kn ++ [62])) := HV.out
    have hsn := str_size kn
    have hn := hz.name
    simp only at hn
    obtain ⟨x1, hx1⟩ : ∃ x, x = 60 :: 47 :: kn := ⟨_, rfl⟩
    have q1 : (⟨#[60, 47]⟩ : ByteArray) ++ str kn = str x1 := by rw [hx1, str_cat_l]; rfl
    have q2 : str x1 ++ (⟨#[62]⟩ : ByteArray) = str (x1 ++ [62]) := by rw [str_cat_r]
    have l1 : x1.length = kn.length + 2 := by rw [hx1]; rfl
    have s1 := str_size x1
    have m1 : ¬ 9223372036854775807 < 2 + kn.length := by omega
    have m2 : ¬ 9223372036854775807 < x1.length + 1 := by omega
    have HY : Hid (x1 ++ [62] = 60 :: 47 :: (kn ++ [62])) := by show _ = _; rw [hx1]; rfl
    clear HV hz hv hx1 l1
    generalize x1 ++ [62] = x2 at *
    go_enter Tryz.func68, Tryz.ntmps68
    go_wp2
    go_ret
    exact ⟨by rw [HX.out, HY.out]; rfl, hb0⟩
  have n2 : ((kk : Int) == 2) = false := kind_no h2
  by_cases h3 : kk = 3
  · subst h3
    have HX : Hid (Tk.tagText ⟨3, kn, ka, ks, kx⟩ = Rf.enc false kx) := HV.out
    have hE := fun W => Encode_any kx false W hz.text
    clear HV hz hv
    go_enter Tryz.func68, Tryz.ntmps68
    go_wp2_with (go_at_call 103; refine (hE _).mono ?_; rintro e w1 ⟨rfl, hb1⟩)
    go_ret
    exact ⟨by rw [HX.out]; rfl, hb0.trans (hb1.mono hb0.size)⟩
  have n3 : ((kk : Int) == 3) = false := kind_no h3
  have HX : Hid (Tk.tagText ⟨kk, kn, ka, ks, kx⟩ = []) := by show _ = _; rw [HV.out, if_neg h1, if_neg h2, if_neg h3]
  clear HV hz hv h1 h2 h3
  go_enter Tryz.func68, Tryz.ntmps68
  go_wp2
  go_ret
  exact ⟨by rw [HX.out]; rfl, hb0⟩
end Go.Proofs.YtiodaahncadodaaGreatDoor
