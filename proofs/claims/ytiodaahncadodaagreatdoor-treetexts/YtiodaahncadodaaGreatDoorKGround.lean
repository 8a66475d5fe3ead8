/- Texts laid as one. -/
import Derived.Test.YtiodaahncadodaaGreatDoorKBase
import Derived.Test.YtiodaahncadodaaGreatDoorKMath
import Derived.Maps.AppendAt
import Derived.Deep.QuietTactic
import Derived.BigQuiet
import Derived.WalkSmall
import Derived.Laws.BitsAllLaws
/- Contracts of the program's and the reference's small functions on bytes. -/
namespace Go.Proofs.YtiodaahncadodaaGreatDoor
open Go.RowKit
def blankN (n : Int) : Bool := decide (n = 9) || decide (n = 10) || decide (n = 12) || decide (n = 13) || decide (n = 32)
theorem blankN_byte (c : UInt8) : blankN (c.toNat : Int) = Asc.isBlank c := by
  have h : ∀ m : Nat, m < 256 → decide ((c.toNat : Int) = m) = (c == UInt8.ofNat m) := by
    intro m hm
    rw [Bool.eq_iff_iff]
    simp only [decide_eq_true_eq, beq_iff_eq]
    constructor
    · intro e
      apply UInt8.toNat_inj.1
      simp
      omega
    · intro e
      rw [e]
      simp
      omega
  unfold blankN Asc.isBlank
  have h9 := h 9 (by omega); have h10 := h 10 (by omega); have h12 := h 12 (by omega); have h13 := h 13 (by omega); have h32 := h 32 (by omega)
  simp only [Int.cast_ofNat_Int] at h9 h10 h12 h13 h32
  rw [h9, h10, h12, h13, h32]
  rfl
set_option maxHeartbeats 400000 in
theorem IsBlank_n (n : Int) (w : World) :
    Calls Tryz.prog 180 #[.int .u8 n] w fun e w' => e = .returned (.bool (blankN n)) ∧ w' = w := by
  by_cases h9 : n = 9
  · subst h9
    go_enter Tryz.func180, Tryz.ntmps180
    go_wp2
    go_ret
    exact ⟨rfl, rfl⟩
  by_cases h10 : n = 10
  · subst h10
    go_enter Tryz.func180, Tryz.ntmps180
    go_wp2
    go_ret
    exact ⟨rfl, rfl⟩
  by_cases h12 : n = 12
  · subst h12
    go_enter Tryz.func180, Tryz.ntmps180
    go_wp2
    go_ret
    exact ⟨rfl, rfl⟩
  by_cases h13 : n = 13
  · subst h13
    go_enter Tryz.func180, Tryz.ntmps180
    go_wp2
    go_ret
    exact ⟨rfl, rfl⟩
  by_cases h32 : n = 32
  · subst h32
    go_enter Tryz.func180, Tryz.ntmps180
    go_wp2
    go_ret
    exact ⟨rfl, rfl⟩
  have hf : blankN n = false := by simp [blankN, h9, h10, h12, h13, h32]
  rw [hf]
  go_enter Tryz.func180, Tryz.ntmps180
  go_wp2
  go_ret
  exact ⟨rfl, rfl⟩
set_option maxHeartbeats 400000 in
theorem RIsBlank_n (n : Int) (w : World) :
    Calls Tryz.prog 78 #[.int .u8 n] w fun e w' => e = .returned (.bool (blankN n)) ∧ w' = w := by
  rcases (show n = 9 ∨ n = 10 ∨ n = 12 ∨ n = 13 ∨ n = 32 ∨ (n ≠ 9 ∧ n ≠ 10 ∧ n ≠ 12 ∧ n ≠ 13 ∧ n ≠ 32) from by omega) with rfl | rfl | rfl | rfl | rfl | ⟨h9, h10, h12, h13, h32⟩
  case inr.inr.inr.inr.inr =>
    have hf : blankN n = false := by simp [blankN, h9, h10, h12, h13, h32]
    rw [hf]
    go_enter Tryz.func78, Tryz.ntmps78
    go_wp2
    go_ret
    exact ⟨ret_bool (by first | rfl | (simp <;> omega)), rfl⟩
  all_goals
    go_enter Tryz.func78, Tryz.ntmps78
    go_wp2
    go_ret
    exact ⟨ret_bool (by first | rfl | (simp <;> omega)), rfl⟩
def digN (n : Int) : Bool := decide (48 ≤ n ∧ n ≤ 57)
def letN (n : Int) : Bool := decide ((65 ≤ n ∧ n ≤ 90) ∨ (97 ≤ n ∧ n ≤ 122))
theorem digN_yes {n : Int} (h : 48 ≤ n) (h2 : n ≤ 57) : digN n = true := decide_eq_true ⟨h, h2⟩
theorem digN_no {n : Int} (h : n < 48 ∨ 57 < n) : digN n = false := decide_eq_false (by omega)
theorem letN_yes {n : Int} (h : (65 ≤ n ∧ n ≤ 90) ∨ (97 ≤ n ∧ n ≤ 122)) : letN n = true := decide_eq_true h
theorem letN_no {n : Int} (h : ¬ ((65 ≤ n ∧ n ≤ 90) ∨ (97 ≤ n ∧ n ≤ 122))) : letN n = false := decide_eq_false h
set_option maxHeartbeats 400000 in
theorem IsDigit_n (n : Int) (w : World) :
    Calls Tryz.prog 188 #[.int .u8 n] w fun e w' => e = .returned (.bool (digN n)) ∧ w' = w := by
  rcases (show n < 48 ∨ (48 ≤ n ∧ n ≤ 57) ∨ 57 < n from by omega) with h | ⟨h, h2⟩ | h
  · rw [digN_no (.inl h)]
    go_enter Tryz.func188, Tryz.ntmps188
    go_wp2
    go_ret
    exact ⟨ret_bool (by first | rfl | (simp <;> omega)), rfl⟩
  · rw [digN_yes h h2]
    go_enter Tryz.func188, Tryz.ntmps188
    go_wp2
    go_ret
    exact ⟨ret_bool (by first | rfl | (simp <;> omega)), rfl⟩
  · rw [digN_no (.inr h)]
    have h3 : 48 ≤ n := by omega
    go_enter Tryz.func188, Tryz.ntmps188
    go_wp2
    go_ret
    exact ⟨ret_bool (by first | rfl | (simp <;> omega)), rfl⟩
set_option maxHeartbeats 400000 in
theorem RIsDigit_n (n : Int) (w : World) :
    Calls Tryz.prog 113 #[.int .u8 n] w fun e w' => e = .returned (.bool (digN n)) ∧ w' = w := by
  rcases (show n < 48 ∨ (48 ≤ n ∧ n ≤ 57) ∨ 57 < n from by omega) with h | ⟨h, h2⟩ | h
  · rw [digN_no (.inl h)]
    go_enter Tryz.func113, Tryz.ntmps113
    go_wp2
    go_ret
    exact ⟨ret_bool (by first | rfl | (simp <;> omega)), rfl⟩
  · rw [digN_yes h h2]
    go_enter Tryz.func113, Tryz.ntmps113
    go_wp2
    go_ret
    exact ⟨ret_bool (by first | rfl | (simp <;> omega)), rfl⟩
  · rw [digN_no (.inr h)]
    have h3 : 48 ≤ n := by omega
    go_enter Tryz.func113, Tryz.ntmps113
    go_wp2
    go_ret
    exact ⟨ret_bool (by first | rfl | (simp <;> omega)), rfl⟩
set_option maxHeartbeats 400000 in
theorem IsLetter_n (n : Int) (w : World) :
    Calls Tryz.prog 123 #[.int .u8 n] w fun e w' => e = .returned (.bool (letN n)) ∧ w' = w := by
  rcases (show n < 65 ∨ (65 ≤ n ∧ n ≤ 90) ∨ (90 < n ∧ n < 97) ∨ (97 ≤ n ∧ n ≤ 122) ∨ 122 < n from by omega) with h | ⟨h, h2⟩ | ⟨h, h2⟩ | ⟨h, h2⟩ | h
  · rw [letN_no (by omega)]
    go_enter Tryz.func123, Tryz.ntmps123
    go_wp2
    go_ret
    exact ⟨ret_bool (by first | rfl | (simp <;> omega)), rfl⟩
  · rw [letN_yes (by omega)]
    go_enter Tryz.func123, Tryz.ntmps123
    go_wp2
    go_ret
    exact ⟨ret_bool (by first | rfl | (simp <;> omega)), rfl⟩
  · rw [letN_no (by omega)]
    go_enter Tryz.func123, Tryz.ntmps123
    go_wp2
    go_ret
    exact ⟨ret_bool (by first | rfl | (simp <;> omega)), rfl⟩
  · rw [letN_yes (by omega)]
    go_enter Tryz.func123, Tryz.ntmps123
    go_wp2
    go_ret
    exact ⟨ret_bool (by first | rfl | (simp <;> omega)), rfl⟩
  · rw [letN_no (by omega)]
    go_enter Tryz.func123, Tryz.ntmps123
    go_wp2
    go_ret
    exact ⟨ret_bool (by first | rfl | (simp <;> omega)), rfl⟩
set_option maxHeartbeats 400000 in
theorem RIsLetter_n (n : Int) (w : World) :
    Calls Tryz.prog 74 #[.int .u8 n] w fun e w' => e = .returned (.bool (letN n)) ∧ w' = w := by
  rcases (show n < 65 ∨ (65 ≤ n ∧ n ≤ 90) ∨ (90 < n ∧ n < 97) ∨ (97 ≤ n ∧ n ≤ 122) ∨ 122 < n from by omega) with h | ⟨h, h2⟩ | ⟨h, h2⟩ | ⟨h, h2⟩ | h
  · rw [letN_no (by omega)]
    go_enter Tryz.func74, Tryz.ntmps74
    go_wp2
    go_ret
    exact ⟨ret_bool (by first | rfl | (simp <;> omega)), rfl⟩
  · rw [letN_yes (by omega)]
    go_enter Tryz.func74, Tryz.ntmps74
    go_wp2
    go_ret
    exact ⟨ret_bool (by first | rfl | (simp <;> omega)), rfl⟩
  · rw [letN_no (by omega)]
    go_enter Tryz.func74, Tryz.ntmps74
    go_wp2
    go_ret
    exact ⟨ret_bool (by first | rfl | (simp <;> omega)), rfl⟩
  · rw [letN_yes (by omega)]
    go_enter Tryz.func74, Tryz.ntmps74
    go_wp2
    go_ret
    exact ⟨ret_bool (by first | rfl | (simp <;> omega)), rfl⟩
  · rw [letN_no (by omega)]
    go_enter Tryz.func74, Tryz.ntmps74
    go_wp2
    go_ret
    exact ⟨ret_bool (by first | rfl | (simp <;> omega)), rfl⟩
end Go.Proofs.YtiodaahncadodaaGreatDoor
/- Slices of texts of the call's own. -/
namespace Go.Proofs.YtiodaahncadodaaGreatDoor
open Go.RowKit
def strV (l : List UInt8) : Value := .string ⟨l.toArray⟩
theorem strV_data (s : ByteArray) : strV s.data.toList = .string s := by simp [strV]
theorem IsBlank_any (c : UInt8) (w : World) :
    Calls Tryz.prog 180 #[.int .u8 c.toNat] w fun e w' => e = .returned (.bool (Asc.isBlank c)) ∧ w' = w := by
  rw [← blankN_byte]
  exact IsBlank_n _ _
/-- The slice owns these texts, in memory from 'B' on. -/
def OwnsTexts (w : World) (B : Nat) (v : Value) (ts : List (List UInt8)) : Prop := w.ownsRow B 9 1 v ts.length (ts.map strV)
theorem OwnsTexts.nil (w : World) (B : Nat) : OwnsTexts w B (.slice none 0 0) [] := World.ownsRow_nil _ _ _ _
theorem OwnsTexts.of {w : World} {B : Nat} {v : Value} {ts us : List (List UInt8)} {y : List UInt8} {x : Value} (h : us = ts ++ [y]) (hx : strV y = x) (ho : w.ownsRow B 9 1 v (ts.length + 1) (ts.map strV ++ [x])) : OwnsTexts w B v us := by
  subst h; subst hx
  unfold OwnsTexts
  simpa using ho
end Go.Proofs.YtiodaahncadodaaGreatDoor
/- Slices that read as texts; the reference's Texts. -/
namespace Go.Proofs.YtiodaahncadodaaGreatDoor
open Go.RowKit
/-- The slice reads as these texts. -/
def ReadsTexts (w : World) (v : Value) (ts : List (List UInt8)) : Prop :=
  (∃ a c, v = .slice a 0 c ∧ ts = []) ∨ ∃ b o c, v = .slice (some ⟨b, o, none⟩) ts.length c ∧ ts.length ≤ c ∧ ∀ (j : Nat) t, ts[j]? = some t → w.cell? ⟨b, o + j, none⟩ = some (strV t)
theorem OwnsTexts.reads {w : World} {B : Nat} {v : Value} {ts : List (List UInt8)} (h : OwnsTexts w B v ts) : ReadsTexts w v ts := by
  rcases h.2 with ⟨rfl, h0⟩ | ⟨g, cap, cur, rfl, _, hg, hc, _, hcs, ht⟩
  · exact .inl ⟨_, _, rfl, List.eq_nil_of_length_eq_zero h0⟩
  · refine .inr ⟨g, 0, cap, rfl, hc, fun j t hj => ?_⟩
    have hlt : j < ts.length := (List.getElem?_eq_some_iff.1 hj).1
    have := World.ownsRow.cellAt (w := w) (base := B) (e := 9) (size := 1) (g := g) (cap := cap) (n := ts.length) (xs := ts.map strV) h j (by omega)
    rw [Nat.zero_add, this, List.getElem?_map, hj]
    rfl
end Go.Proofs.YtiodaahncadodaaGreatDoor
/- The contract of the program's Hex. -/
namespace Go.Proofs.YtiodaahncadodaaGreatDoor
open Go.RowKit
theorem size_data (b : ByteArray) : b.size = b.data.toList.length := Array.length_toList.symm
theorem ret_pair {a b c d : Value} (h : a = c) (h2 : b = d) : Ending.returned (.tuple #[a, b]) = .returned (.tuple #[c, d]) := by rw [h, h2]
set_option maxHeartbeats 400000 in
theorem lowerByte_n (n : Int) (w : World) (h0 : 0 ≤ n) (h1 : n ≤ 255) :
    Calls Tryz.prog 175 #[.int .u8 n] w fun e w' => e = .returned (.int .u8 (Asc.lowN n)) ∧ w' = w := by
  by_cases h : 65 ≤ n ∧ n ≤ 90
  · have HN : Hid (Asc.lowN n = n + 32) := by show _ = _; unfold Asc.lowN; rw [if_pos h]
    obtain ⟨ha, hb⟩ := h
    go_enter Tryz.func175, Tryz.ntmps175
    go_wp2
    go_ret
    exact ⟨ret_int (by rw [HN.out]; omega), rfl⟩
  · have HN : Hid (Asc.lowN n = n) := by show _ = _; unfold Asc.lowN; rw [if_neg h]
    by_cases ha : 65 ≤ n
    · have hb : ¬ n ≤ 90 := by omega
      clear h
      go_enter Tryz.func175, Tryz.ntmps175
      go_wp2
      go_ret
      exact ⟨ret_int HN.out.symm, rfl⟩
    · clear h
      go_enter Tryz.func175, Tryz.ntmps175
      go_wp2
      go_ret
      exact ⟨ret_int HN.out.symm, rfl⟩
theorem byte_bd (c : UInt8) : (0 : Int) ≤ (c.toNat : Int) ∧ (c.toNat : Int) ≤ 255 := by have := c.toNat_lt; omega
theorem lowerByte_any (c : UInt8) (w : World) :
    Calls Tryz.prog 175 #[.int .u8 c.toNat] w fun e w' => e = .returned (.int .u8 (Asc.lowerC c).toNat) ∧ w' = w := by
  rw [← Asc.lowN_byte]
  exact lowerByte_n _ _ (byte_bd c).1 (byte_bd c).2
theorem take_all (a : ByteArray) (k : Nat) (h : a.size ≤ k) : a.data.toList.take k = a.data.toList := List.take_of_length_le (by simpa using h)
set_option maxHeartbeats 400000 in
theorem hexDigit_n (n : Int) (w : World) (h0 : 0 ≤ n) (h1 : n ≤ 255) :
    Calls Tryz.prog 204 #[.int .u8 n] w fun e w' => e = .returned (.tuple #[.int .u32 (Asc.hexV n), .bool (Asc.hexOk n)]) ∧ w' = w := by
  have hbd := Asc.lowN_bd n h0 h1
  obtain ⟨hb0, hb1⟩ := hbd
  rcases (show (48 ≤ Asc.lowN n ∧ Asc.lowN n ≤ 57) ∨ (97 ≤ Asc.lowN n ∧ Asc.lowN n ≤ 102) ∨ (Asc.lowN n < 48 ∨ (57 < Asc.lowN n ∧ Asc.lowN n < 97) ∨ 102 < Asc.lowN n) from by omega) with ⟨ha, hb⟩ | ⟨ha, hb⟩ | h
  · have HN : Hid (Asc.hexV n = Asc.lowN n - 48 ∧ Asc.hexOk n = true) := Asc.hex_digit n ha hb
    go_enter Tryz.func204, Tryz.ntmps204
    go_wp2_with (first
      | (go_at_call 175; refine (lowerByte_n n _ h0 h1).mono ?_; rintro e w1 ⟨rfl, hw⟩; rw [hw]; clear hw)
      | go_in)
    go_ret2
    exact ⟨ret_pair (by rw [HN.out.1]; rfl) (by rw [HN.out.2]; rfl), rfl⟩
  · have HN : Hid (Asc.hexV n = Asc.lowN n - 97 + 10 ∧ Asc.hexOk n = true) := Asc.hex_letter n ha hb
    go_enter Tryz.func204, Tryz.ntmps204
    go_wp2_with (first
      | (go_at_call 175; refine (lowerByte_n n _ h0 h1).mono ?_; rintro e w1 ⟨rfl, hw⟩; rw [hw]; clear hw)
      | go_in)
    go_ret2
    exact ⟨ret_pair (by rw [HN.out.1]; rfl) (by rw [HN.out.2]; rfl), rfl⟩
  · have HN : Hid (Asc.hexV n = 0 ∧ Asc.hexOk n = false) := Asc.hex_none n h
    rcases h with ha | ⟨ha, hb⟩ | ha
    all_goals
      go_enter Tryz.func204, Tryz.ntmps204
      go_wp2_with (first
        | (go_at_call 175; refine (lowerByte_n n _ h0 h1).mono ?_; rintro e w1 ⟨rfl, hw⟩; rw [hw]; clear hw)
        | go_in)
      go_ret2
      exact ⟨ret_pair (by rw [HN.out.1]; rfl) (by rw [HN.out.2]; rfl), rfl⟩
theorem hexDigit_any (c : UInt8) (w : World) :
    Calls Tryz.prog 204 #[.int .u8 c.toNat] w fun e w' => e = .returned (.tuple #[.int .u32 (Asc.hexV (Asc.bt c)), .bool (Asc.hexOk (Asc.bt c))]) ∧ w' = w := hexDigit_n _ _ (byte_bd c).1 (byte_bd c).2
set_option maxHeartbeats 400000 in
theorem isHex_any (s : ByteArray) (w : World) (hs : s.size ≤ 1000000000) :
    Calls Tryz.prog 203 #[.string s] w fun e w' => e = .returned (.bool (Asc.hexForm s.data.toList)) ∧ w' = w := by
  go_enter Tryz.func203, Tryz.ntmps203
  go_wp2
  go_loop [8] (fun i => ∃ k : Nat, k ≤ s.size ∧ i = .int .i64 k ∧ Hid (Asc.allHex (s.data.toList.take k) = true)) (fun i => s.size - (intOf i).toNat)
  case atStart => exact ⟨0, Nat.zero_le _, rfl, rfl⟩
  case round =>
    obtain ⟨k, hk, rfl, HE⟩ := hrel
    by_cases hlt : k < s.size
    · cases hx : Asc.hexOk (Asc.bt s[k])
      · have HN : Hid ((Asc.hexForm s.data.toList) = false) := by
          show _ = _
          unfold Asc.hexForm
          rw [Asc.allHex_not s.data.toList k hlt hx]
          rfl
        go_wp2_with (first
          | (go_at_call 204; refine (hexDigit_any _ _).mono ?_; rintro e w1 ⟨rfl, hw⟩; rw [hw]; clear hw))
        go_ret
        exact ⟨ret_bool HN.out.symm, rfl⟩
      · have HN : Hid (Asc.allHex (s.data.toList.take (k + 1)) = true) := by
          show _ = _
          rw [Asc.allHex_take s.data.toList k hlt, HE.out, Bool.true_and]
          exact hx
        go_wp2_with (first
          | (go_at_call 204; refine (hexDigit_any _ _).mono ?_; rintro e w1 ⟨rfl, hw⟩; rw [hw]; clear hw))
        go_round
        case rel => exact ⟨k + 1, by omega, by go_num, HN⟩
        case measure => simp [intOf]; omega
    · have HN : Hid (Asc.allHex s.data.toList = true) := by
        have := HE.out
        rwa [take_all s k (by omega)] at this
      go_wp2
      go_ret
      exact ⟨ret_bool (by unfold Asc.hexForm; rw [HN.out, ByteArray.toList_eq]; rfl), rfl⟩
theorem or_hex (n d : Int) (h0 : 0 ≤ n) (h1 : n ≤ 268435455) (h2 : 0 ≤ d) (h3 : d ≤ 15) : bits BinOp.or IntKind.u32 (n * 16) d = n * 16 + d := by
  obtain ⟨a, rfl⟩ := Int.eq_ofNat_of_zero_le h0
  obtain ⟨b, rfl⟩ := Int.eq_ofNat_of_zero_le h2
  rw [u32_or _ _ (by omega) (by omega) (by omega) (by omega)]
  have e : ((a : Int) * 16).toNat = 2 ^ 4 * a := by omega
  rw [e, Int.toNat_natCast, ← Nat.two_pow_add_eq_or_of_lt (show b < 2 ^ 4 by omega)]
  omega
set_option maxHeartbeats 400000 in
theorem Hex_any (s : ByteArray) (w : World) (hs : s.size ≤ 1000000000) :
    Calls Tryz.prog 200 #[.string s] w fun e w' => e = .returned (.tuple #[.int .u32 (Asc.hexNum s.data.toList), .int .i64 (Asc.hexErr s.data.toList)]) ∧ w' = w := by
  cases hx : (Asc.hexForm s.data.toList)
  · have HN : Hid (Asc.hexNum s.data.toList = 0 ∧ Asc.hexErr s.data.toList = 3) := Asc.hex_form _ (Asc.hexForm_no _ hx)
    go_enter Tryz.func200, Tryz.ntmps200
    go_wp2_with (first
      | (go_at_call 203; refine (isHex_any s _ hs).mono ?_; rintro e w1 ⟨rfl, hw⟩; rw [hw]; clear hw))
    go_ret2
    exact ⟨ret_pair (by rw [HN.out.1]; rfl) (by rw [HN.out.2]; rfl), rfl⟩
  · have HA : Hid (Asc.allHex s.data.toList = true ∧ s.data.toList ≠ []) := Asc.hexForm_yes _ hx
    go_enter Tryz.func200, Tryz.ntmps200
    go_wp2_with (first
      | (go_at_call 203; refine (isHex_any s _ hs).mono ?_; rintro e w1 ⟨rfl, hw⟩; rw [hw]; clear hw))
    clear hx
    go_loop [4, 13] (fun m i => ∃ (k : Nat) (n : Int), k ≤ s.size ∧ i = .int .i64 k ∧ m = .int .u32 n ∧ 0 ≤ n ∧ n ≤ 4294967295 ∧ Hid (Asc.hexFold n (s.data.toList.drop k) = Asc.hexFold 0 s.data.toList)) (fun _ i => s.size - (intOf i).toNat)
    case atStart => exact ⟨0, 0, Nat.zero_le _, rfl, rfl, by omega, by omega, rfl⟩
    case round =>
      obtain ⟨k, n, hk, rfl, rfl, hn0, hn1, HE⟩ := hrel
      by_cases hlt : k < s.size
      · by_cases hn : 268435455 < n
        · have HN : Hid (Asc.hexNum s.data.toList = 0 ∧ Asc.hexErr s.data.toList = 5) := Asc.hex_many _ HA.out (by rw [← HE.out]; exact Asc.hexFold_stop _ k n hlt hn)
          go_wp2
          go_ret2
          exact ⟨ret_pair (by rw [HN.out.1]; rfl) (by rw [HN.out.2]; rfl), rfl⟩
        · have hv := Asc.hexV_bd (Asc.bt s[k])
          obtain ⟨hv0, hv1⟩ := hv
          have HN : Hid (Asc.hexFold (n * 16 + Asc.hexV (Asc.bt s[k])) (s.data.toList.drop (k + 1)) = Asc.hexFold 0 s.data.toList) := by
            show _ = _
            rw [← HE.out]
            exact (Asc.hexFold_next _ k n hlt (by omega)).symm
          go_wp2_with (first
            | (go_at_call 204; refine (hexDigit_any _ _).mono ?_; rintro e w1 ⟨rfl, hw⟩; rw [hw]; clear hw))
          go_round
          case rel => exact ⟨k + 1, n * 16 + Asc.hexV (Asc.bt s[k]), by omega, by go_num, by rw [or_hex n _ hn0 (by omega) hv0 hv1], by omega, by omega, HN⟩
          case measure => simp [intOf]; omega
      · have HN : Hid (Asc.hexNum s.data.toList = n ∧ Asc.hexErr s.data.toList = 0) := Asc.hex_ok _ n HA.out (by rw [← HE.out]; exact Asc.hexFold_end _ k n (by simpa using Nat.le_of_not_lt hlt))
        go_wp2
        go_ret2
        exact ⟨ret_pair (by rw [HN.out.1]; rfl) (by rw [HN.out.2]; rfl), rfl⟩
end Go.Proofs.YtiodaahncadodaaGreatDoor
/- The contract of the reference's Nibble. -/
namespace Go.Proofs.YtiodaahncadodaaGreatDoor
open Go.RowKit
def nibV (n : Int) : Int := if Asc.hexOk n = true then Asc.hexV n else 16
theorem nib_yes (n : Int) (h : Asc.hexOk n = true) : nibV n = Asc.hexV n := if_pos h
theorem nib_no (n : Int) (h : Asc.hexOk n = false) : nibV n = 16 := by unfold nibV; rw [h]; rfl
set_option maxHeartbeats 1000000 in
theorem Rnibble_n (n : Int) (w : World) (h0 : 0 ≤ n) (h1 : n ≤ 255) :
    Calls Tryz.prog 164 #[.int .u8 n] w fun e w' => e = .returned (.int .u32 (nibV n)) ∧ w' = w := by
  rcases (show (48 ≤ n ∧ n ≤ 57) ∨ (97 ≤ n ∧ n ≤ 102) ∨ (65 ≤ n ∧ n ≤ 70) ∨ n < 48 ∨ (57 < n ∧ n < 65) ∨ (70 < n ∧ n < 97) ∨ 102 < n from by omega) with ⟨ha, hb⟩ | ⟨ha, hb⟩ | ⟨ha, hb⟩ | ha | ⟨ha, hb⟩ | ⟨ha, hb⟩ | ha
  · have hd : digN n = true := digN_yes ha hb
    have HN : Hid (nibV n = n - 48) := by
      show _ = _
      unfold nibV Asc.hexOk Asc.hexV
      rw [if_pos (by simp [ha, hb]), if_pos ⟨ha, hb⟩]
    go_enter Tryz.func164, Tryz.ntmps164
    go_wp2_with (first
      | (go_at_call 113; refine (RIsDigit_n n _).mono ?_; rintro e w1 ⟨rfl, hw⟩; rw [hw]; clear hw))
    go_ret
    exact ⟨ret_int HN.out.symm, rfl⟩
  · have hd : digN n = false := digN_no (by omega)
    have HN : Hid (nibV n = n - 97 + 10) := by
      show _ = _
      unfold nibV Asc.hexOk Asc.hexV
      rw [if_pos (by simp [ha, hb]), if_neg (by omega), if_pos ⟨ha, hb⟩]
      omega
    go_enter Tryz.func164, Tryz.ntmps164
    go_wp2_with (first
      | (go_at_call 113; refine (RIsDigit_n n _).mono ?_; rintro e w1 ⟨rfl, hw⟩; rw [hw]; clear hw))
    go_ret
    exact ⟨ret_int HN.out.symm, rfl⟩
  · have hd : digN n = false := digN_no (by omega)
    have HN : Hid (nibV n = n - 65 + 10) := by
      show _ = _
      unfold nibV Asc.hexOk Asc.hexV
      rw [if_pos (by simp [ha, hb]), if_neg (by omega), if_neg (by omega), if_pos ⟨ha, hb⟩]
      omega
    go_enter Tryz.func164, Tryz.ntmps164
    go_wp2_with (first
      | (go_at_call 113; refine (RIsDigit_n n _).mono ?_; rintro e w1 ⟨rfl, hw⟩; rw [hw]; clear hw))
    go_ret
    exact ⟨ret_int HN.out.symm, rfl⟩
  all_goals
    have hd : digN n = false := digN_no (by omega)
    have HN : Hid (nibV n = 16) := by
      show _ = _
      unfold nibV Asc.hexOk
      rw [decide_eq_false (by omega), decide_eq_false (by omega), decide_eq_false (by omega)]
      rfl
    go_enter Tryz.func164, Tryz.ntmps164
    go_wp2_with (first
      | (go_at_call 113; refine (RIsDigit_n n _).mono ?_; rintro e w1 ⟨rfl, hw⟩; rw [hw]; clear hw))
    go_ret
    exact ⟨ret_int HN.out.symm, rfl⟩
theorem Rnibble_any (c : UInt8) (w : World) :
    Calls Tryz.prog 164 #[.int .u8 c.toNat] w fun e w' => e = .returned (.int .u32 (nibV (Asc.bt c))) ∧ w' = w := Rnibble_n _ _ (byte_bd c).1 (byte_bd c).2
end Go.Proofs.YtiodaahncadodaaGreatDoor
