/- The walk of the law AsciiBack, out of the contracts. -/
import Derived.Test.YtoggbikjkccfeaaDoorCLong
import Derived.Test.YtoggbikjkccfeaaDoorCNum
import Derived.Test.YtoggbikjkccfeaaDoorAscBack
namespace Go.Proofs.YtoggbikjkccfeaaDoor.asciiBack
open Go.RowKit
def big : Int := 9223372036854775807
theorem read_txt (n : Int) (h0 : 0 ≤ n) (h1 : n ≤ 9223372036854775807) (w : World) :
    Calls Tryd.prog 27 #[.string (txt n), .int .i64 9223372036854775807] w fun e w' => e = .returned (.tuple #[.int .i64 n, .int .i64 0]) ∧ w' = w := by
  have hl := Lib.itoa_length_le n (by omega) h1
  rw [← txt_size] at hl
  have h := Number_any (txt n) 9223372036854775807 w (by omega) (Int.le_refl _)
  have hr := Asc.read_digits 0 n.natAbs 9223372036854775807 (by omega)
  rw [List.replicate_zero, List.nil_append] at hr
  rw [txt_data, itoa_pos' n h0, hr.1, hr.2, show ((n.natAbs : Nat) : Int) = n from by omega] at h
  exact h
theorem read_pad (n : Int) (h0 : 0 ≤ n) (h1 : n ≤ 9223372036854775807) (w : World) :
    Calls Tryd.prog 27 #[strV (padL n 20), .int .i64 9223372036854775807] w fun e w' => e = .returned (.tuple #[.int .i64 n, .int .i64 0]) ∧ w' = w := by
  have hd := Lib.nDigits_le20 n.natAbs (by omega)
  rw [← Lib.decDigits_length] at hd
  have hp : padL n 20 = List.replicate (min 20 20 - ((Lib.decDigits n.natAbs).length : Int)).toNat 48 ++ Lib.decDigits n.natAbs := by
    unfold padL
    rw [if_neg (by omega)]
    rfl
  have hl : (padL n 20).length ≤ 1000000000 := by
    rw [hp, List.length_append, List.length_replicate]
    omega
  have h := Number_any ⟨(padL n 20).toArray⟩ 9223372036854775807 w (by simpa [ByteArray.size] using hl) (Int.le_refl _)
  have hr := Asc.read_digits (min 20 20 - ((Lib.decDigits n.natAbs).length : Int)).toNat n.natAbs 9223372036854775807 (by omega)
  rw [← hp] at hr
  rw [show (⟨(padL n 20).toArray⟩ : ByteArray).data.toList = padL n 20 from by simp, hr.1, hr.2, show ((n.natAbs : Nat) : Int) = n from by omega] at h
  exact h
theorem strip_drop (l : List UInt8) (h : 1 < l.length) (h48 : l[0] = 48) : Asc.strip (l.drop 1) = Asc.strip l := by
  match l, h, h48 with
  | c :: d :: r, _, h48 =>
    rw [Asc.strip, if_pos (by simpa using h48)]
    rfl
theorem strip_stop (l : List UInt8) (h : ¬ 1 < l.length ∨ ∀ h : 0 < l.length, l[0] ≠ 48) : Asc.strip l = l := by
  match l, h with
  | [], _ => rfl
  | [c], _ => rfl
  | c :: d :: r, h =>
    rcases h with h | h
    · simp at h
    · rw [Asc.strip, if_neg (show ¬ c = 48 from h (Nat.zero_lt_succ _))]
theorem size_data' (b : ByteArray) : b.size = b.data.toList.length := Array.length_toList.symm
theorem byte_48 (c : UInt8) (h : (c.toNat : Int) = 48) : c = 48 := by
  apply UInt8.toNat_inj.1
  have : (48 : UInt8).toNat = 48 := rfl
  omega
theorem strip_step (b : ByteArray) (h1 : 1 < b.size) (h : (b[0].toNat : Int) = 48) : Asc.strip (b.extract 1 b.size).data.toList = Asc.strip b.data.toList := by
  rw [data_cut, take_all b b.size (Nat.le_refl _)]
  exact strip_drop b.data.toList (by rw [← size_data']; exact h1) (byte_48 _ h)
theorem text_eq {b : ByteArray} {n : Int} (h : b.data.toList = Lib.itoa n) : b = txt n := by
  have : b.data = (txt n).data := Array.ext' (by rw [h, txt_data])
  cases b
  unfold txt at *
  simpa using this
def strOf : Value → ByteArray
  | .string b => b
  | _ => ⟨#[]⟩
/-- What the rest of the law asks of a text that is read. -/
def Rest (s b : ByteArray) (x : Int) : Prop := Asc.strip b.data.toList = Asc.strip s.data.toList ∧ Lib.itoa x = Asc.strip s.data.toList
theorem Rest.next {s b : ByteArray} {x : Int} (h : Rest s b x) (h1 : 1 < b.size) (h2 : (b[0].toNat : Int) = 48) : Rest s (b.extract 1 b.size) x := ⟨(strip_step b h1 h2).trans h.1, h.2⟩
theorem Rest.stop1 {s b : ByteArray} {x : Int} (h : Rest s b x) (h1 : ¬ 1 < b.size) : b = txt x := text_eq (by
  rw [h.2, ← h.1]
  exact (strip_stop _ (.inl (by rw [← size_data']; exact h1))).symm)
theorem Rest.stop2 {s b : ByteArray} {x : Int} (h : Rest s b x) (h1 : 1 < b.size) (h2 : ¬ (b[0].toNat : Int) = 48) : b = txt x := text_eq (by
  rw [h.2, ← h.1]
  refine (strip_stop _ (.inr fun _ e => h2 ?_)).symm
  have e' : b[0] = 48 := e
  rw [e']
  rfl)
theorem cut_size (b : ByteArray) (h : 1 < b.size) : (b.extract 1 b.size).size = b.size - 1 := by
  rw [size_data', data_cut, List.length_drop, List.length_take, ← size_data']
  omega
theorem below3 {w w1 w2 w3 : World} (h1 : Below w.heap.size w w1) (h2 : Below w1.heap.size w1 w2) (h3 : Below w2.heap.size w2 w3) : Below w.heap.size w w3 := by
  have a := h1.trans (h2.mono h1.size)
  exact a.trans (h3.mono a.size)
theorem below4 {w w1 w2 w3 w4 : World} (h1 : Below w.heap.size w w1) (h2 : Below w1.heap.size w1 w2) (h3 : Below w2.heap.size w2 w3) (h4 : Below w3.heap.size w3 w4) : Below w.heap.size w w4 := by
  have a := below3 h1 h2 h3
  exact a.trans (h4.mono a.size)
theorem err_no {x : Int} (h : ¬ x = 0) : (x != 0) = true := by rw [bne_iff_ne]; exact h
theorem err_yes {x : Int} (h : x = 0) : (x != 0) = false := by rw [h]; rfl
theorem num_zero (l : List UInt8) (most : Int) (h : ¬ Asc.numErr l most = 0) : Asc.numNum l most = 0 := by
  unfold Asc.numErr at h
  unfold Asc.numNum
  split
  · rename_i hf
    rw [if_pos hf] at h
    split
    · rfl
    · rename_i hm
      rw [if_neg hm] at h
      cases hv : Asc.numFold most 0 l with
      | none => rfl
      | some v => rw [hv] at h; exact absurd rfl h
  · rfl
set_option maxHeartbeats 1000000 in
theorem walk_neg (n : Int) (s : ByteArray) (w : World) (hn : n < 0) (hl : ¬ 3000 < s.size) (hP : Pow w) :
    Calls Tryd.prog 8 #[.int .i64 n, .string s] w fun e w' => e = .returned (.bool true) ∧ Below w.heap.size w w' := by
  have hb := long_no hl
  have hs : s.size ≤ 1000000000 := by omega
  by_cases he : Asc.numErr s.data.toList 9223372036854775807 = 0
  · have HR : Hid (0 ≤ Asc.numNum s.data.toList 9223372036854775807 ∧ Asc.numNum s.data.toList 9223372036854775807 ≤ 9223372036854775807 ∧ Lib.itoa (Asc.numNum s.data.toList 9223372036854775807) = Asc.strip s.data.toList ∧ s.data.toList ≠ []) := Asc.read_back _ _ (by omega) he
    have hq := err_yes he
    clear he
    · go_enter Tryd.func8, Tryd.ntmps8
      go_wp2_with (first
        | (go_at_call 16; refine (long_any _ _).mono ?_; rintro e w1 ⟨rfl, hw⟩; rw [hw]; clear hw)
        | (go_at_call 27; refine (Number_any s 9223372036854775807 _ hs (Int.le_refl _)).mono ?_; rintro e w1 ⟨rfl, hw⟩; rw [hw]; clear hw))
      go_loop [1] (fun d => ∃ b : ByteArray, d = .string b ∧ b.size ≤ 3000 ∧ Hid (Rest s b (Asc.numNum s.data.toList 9223372036854775807))) (fun d => (strOf d).size)
      case atStart => exact ⟨s, rfl, by omega, rfl, HR.out.2.2.1⟩
      case round =>
        obtain ⟨b, rfl, hbs, HB⟩ := hrel
        by_cases h1 : 1 < b.size
        · by_cases h2 : (b[0].toNat : Int) = 48
          · have hq : ((b[0].toNat : Int) == 48) = true := by rw [beq_iff_eq]; exact h2
            have HN : Hid (Rest s (b.extract 1 b.size) (Asc.numNum s.data.toList 9223372036854775807)) := HB.out.next h1 h2
            have HZ : Hid ((b.extract 1 b.size).size = b.size - 1) := cut_size b h1
            clear h2
            go_wp2
            go_round
            case rel => exact ⟨_, rfl, by have := HZ.out; omega, HN⟩
            case measure =>
              have := HZ.out
              show (b.extract 1 b.size).size < b.size
              omega
          · have hq : ((b[0].toNat : Int) == 48) = false := by rw [beq_eq_false_iff_ne]; exact h2
            have e := HB.out.stop2 h1 h2
            subst e
            clear h2
            go_wp2_with (first
              | (go_at_call 31; refine (Text_any _ _ (by have := HR.out.1; omega) (HR.out.2.1) hP).mono ?_; rintro e w8 ⟨rfl, hb8⟩; have hP8 := Pow.below hP hb8)
              | (go_at_call 15; refine (alive_any _ hP8).mono ?_; rintro e w9 ⟨rfl, hb9⟩))
            go_ret
            exact ⟨rfl, hb8.trans (hb9.mono hb8.size)⟩
        · have e := HB.out.stop1 h1
          subst e
          go_wp2_with (first
            | (go_at_call 31; refine (Text_any _ _ (by have := HR.out.1; omega) (HR.out.2.1) hP).mono ?_; rintro e w8 ⟨rfl, hb8⟩; have hP8 := Pow.below hP hb8)
            | (go_at_call 15; refine (alive_any _ hP8).mono ?_; rintro e w9 ⟨rfl, hb9⟩))
          go_ret
          exact ⟨rfl, hb8.trans (hb9.mono hb8.size)⟩
  · have hz := num_zero _ _ he
    have hq := err_no he
    clear he
    go_enter Tryd.func8, Tryd.ntmps8
    go_wp2_with (first
      | (go_at_call 16; refine (long_any _ _).mono ?_; rintro e w1 ⟨rfl, hw⟩; rw [hw]; clear hw)
      | (go_at_call 27; refine (Number_any s 9223372036854775807 _ hs (Int.le_refl _)).mono ?_; rintro e w1 ⟨rfl, hw⟩; rw [hw]; clear hw)
      | (go_at_call 15; refine (alive_any _ hP).mono ?_; rintro e w9 ⟨rfl, hb9⟩))
    go_ret
    exact ⟨rfl, hb9⟩
set_option maxHeartbeats 1000000 in
theorem walk_pos (n : Int) (s : ByteArray) (w : World) (hn : 0 ≤ n) (hn1 : n ≤ 9223372036854775807) (hl : ¬ 3000 < s.size) (hP : Pow w) :
    Calls Tryd.prog 8 #[.int .i64 n, .string s] w fun e w' => e = .returned (.bool true) ∧ Below w.heap.size w w' := by
  have hb := long_no hl
  have hs : s.size ≤ 1000000000 := by omega
  by_cases he : Asc.numErr s.data.toList 9223372036854775807 = 0
  · have HR : Hid (0 ≤ Asc.numNum s.data.toList 9223372036854775807 ∧ Asc.numNum s.data.toList 9223372036854775807 ≤ 9223372036854775807 ∧ Lib.itoa (Asc.numNum s.data.toList 9223372036854775807) = Asc.strip s.data.toList ∧ s.data.toList ≠ []) := Asc.read_back _ _ (by omega) he
    have hq := err_yes he
    clear he
    go_enter Tryd.func8, Tryd.ntmps8
    go_wp2_with (first
      | (go_at_call 16; refine (long_any _ _).mono ?_; rintro e w1 ⟨rfl, hw⟩; rw [hw]; clear hw)
      | (go_at_call 31; refine (Text_any n _ (by omega) hn1 hP).mono ?_; rintro e w1 ⟨rfl, hb1⟩; have hP1 := hP.below hb1))
    refine (read_txt n hn hn1 _).mono ?_
    rintro e w4 ⟨rfl, hw⟩
    rw [hw]
    clear hw
    go_wp2_with (first
      | (go_at_call 33; refine (Pad_any n 20 _ (by omega) hn1 hP1).mono ?_; rintro e w2 ⟨rfl, hb2⟩; have hP2 := hP1.below hb2))
    refine (read_pad n hn hn1 _).mono ?_
    rintro e w5 ⟨rfl, hw⟩
    rw [hw]
    clear hw
    go_wp2_with fail
    refine (Number_any s 9223372036854775807 _ hs (Int.le_refl _)).mono ?_
    rintro e w6 ⟨rfl, hw⟩
    rw [hw]
    clear hw
    · go_wp2
      go_loop [1] (fun d => ∃ b : ByteArray, d = .string b ∧ b.size ≤ 3000 ∧ Hid (Rest s b (Asc.numNum s.data.toList 9223372036854775807))) (fun d => (strOf d).size)
      case atStart => exact ⟨s, rfl, by omega, rfl, HR.out.2.2.1⟩
      case round =>
        obtain ⟨b, rfl, hbs, HB⟩ := hrel
        by_cases h1 : 1 < b.size
        · by_cases h2 : (b[0].toNat : Int) = 48
          · have hq : ((b[0].toNat : Int) == 48) = true := by rw [beq_iff_eq]; exact h2
            have HN : Hid (Rest s (b.extract 1 b.size) (Asc.numNum s.data.toList 9223372036854775807)) := HB.out.next h1 h2
            have HZ : Hid ((b.extract 1 b.size).size = b.size - 1) := cut_size b h1
            clear h2
            go_wp2
            go_round
            case rel => exact ⟨_, rfl, by have := HZ.out; omega, HN⟩
            case measure =>
              have := HZ.out
              show (b.extract 1 b.size).size < b.size
              omega
          · have hq : ((b[0].toNat : Int) == 48) = false := by rw [beq_eq_false_iff_ne]; exact h2
            have e := HB.out.stop2 h1 h2
            subst e
            clear h2
            go_wp2_with (first
              | (go_at_call 31; refine (Text_any _ _ (by have := HR.out.1; omega) (HR.out.2.1) hP2).mono ?_; rintro e w8 ⟨rfl, hb8⟩; have hP8 := Pow.below hP2 hb8)
              | (go_at_call 15; refine (alive_any _ hP8).mono ?_; rintro e w9 ⟨rfl, hb9⟩))
            go_ret
            exact ⟨rfl, below4 hb1 hb2 hb8 hb9⟩
        · have e := HB.out.stop1 h1
          subst e
          go_wp2_with (first
            | (go_at_call 31; refine (Text_any _ _ (by have := HR.out.1; omega) (HR.out.2.1) hP2).mono ?_; rintro e w8 ⟨rfl, hb8⟩; have hP8 := Pow.below hP2 hb8)
            | (go_at_call 15; refine (alive_any _ hP8).mono ?_; rintro e w9 ⟨rfl, hb9⟩))
          go_ret
          exact ⟨rfl, below4 hb1 hb2 hb8 hb9⟩
  · have hz := num_zero _ _ he
    have hq := err_no he
    clear he
    go_enter Tryd.func8, Tryd.ntmps8
    go_wp2_with (first
      | (go_at_call 16; refine (long_any _ _).mono ?_; rintro e w1 ⟨rfl, hw⟩; rw [hw]; clear hw)
      | (go_at_call 31; refine (Text_any n _ (by omega) hn1 hP).mono ?_; rintro e w1 ⟨rfl, hb1⟩; have hP1 := hP.below hb1))
    refine (read_txt n hn hn1 _).mono ?_
    rintro e w4 ⟨rfl, hw⟩
    rw [hw]
    clear hw
    go_wp2_with (first
      | (go_at_call 33; refine (Pad_any n 20 _ (by omega) hn1 hP1).mono ?_; rintro e w2 ⟨rfl, hb2⟩; have hP2 := hP1.below hb2))
    refine (read_pad n hn hn1 _).mono ?_
    rintro e w5 ⟨rfl, hw⟩
    rw [hw]
    clear hw
    go_wp2_with fail
    refine (Number_any s 9223372036854775807 _ hs (Int.le_refl _)).mono ?_
    rintro e w6 ⟨rfl, hw⟩
    rw [hw]
    clear hw
    go_wp2_with (first
      | (go_at_call 15; refine (alive_any _ hP2).mono ?_; rintro e w9 ⟨rfl, hb9⟩))
    go_ret
    exact ⟨rfl, below3 hb1 hb2 hb9⟩
set_option maxHeartbeats 400000 in
theorem walk_long (n : Int) (s : ByteArray) (w : World) (hl : 3000 < s.size) (hP : Pow w) :
    Calls Tryd.prog 8 #[.int .i64 n, .string s] w fun e w' => e = .returned (.bool true) ∧ Below w.heap.size w w' := by
  have hb := long_yes hl
  go_enter Tryd.func8, Tryd.ntmps8
  go_wp2_with (first
    | (go_at_call 16; refine (long_any _ _).mono ?_; rintro e w1 ⟨rfl, hw⟩; rw [hw]; clear hw)
    | (go_at_call 15; refine (alive_any _ hP).mono ?_; rintro e w5 ⟨rfl, hb5⟩))
  go_ret
  exact ⟨rfl, hb5⟩
theorem walk (n : Int) (s : ByteArray) (w : World) (w0 : (Lit.int .i64 n).wf = true) (_ : s.size ≤ maxLen) (hT : Lib.TabIs Tryd.prog w "internal/strconv.uint64pow10" .u64 Lib.pow10Tab) :
    Calls Tryd.prog 8 #[.int .i64 n, .string s] w fun e w' => e = .returned (.bool true) ∧ Below w.heap.size w w' := by
  by_cases hl : 3000 < s.size
  · exact walk_long n s w hl hT
  · by_cases hn : n < 0
    · exact walk_neg n s w hn hl hT
    · exact walk_pos n s w (by omega) (i64_bd w0).2 hl hT
end Go.Proofs.YtoggbikjkccfeaaDoor.asciiBack
