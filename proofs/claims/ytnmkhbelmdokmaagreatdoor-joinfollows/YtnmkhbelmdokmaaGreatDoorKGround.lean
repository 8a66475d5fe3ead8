/- Texts laid as one. -/
import Derived.Test.YtnmkhbelmdokmaaGreatDoorRows
import Derived.WalkKit
import Derived.ProofKit
import Derived.OpenShut
import Derived.WalkSpells
import Derived.WalkSmall
import Derived.Below
import Derived.BigQuiet
import Derived.BigCall
import Derived.Deep.QuietTactic
import Derived.Laws.IdiomStrings
import Derived.Laws.OwnMore
import Derived.Lib.OthersKept
import Derived.Test.YtnmkhbelmdokmaaGreatDoorKMath
import Derived.Maps.AppendAt
import Derived.Laws.BitsAllLaws
import Derived.Lib.SmallJoins
import Derived.RegionTactic
import Derived.OwnWalk
import Derived.Test.YtnmkhbelmdokmaaGreatDoorKShelf
import Derived.Laws.RangeAny
import Derived.Shelf.Strings.BuilderRune
import Derived.Laws.Cover3
import Derived.Deep.WholeRow
import Derived.Deep.OwnRows
import Derived.Laws.ResultCell
import Derived.Deep.Cut
import Derived.Deep.RegionWith
/- What the contracts of every seat share: texts as lists of bytes, rows of bytes of the call's own, worlds that only grow. -/
namespace Go.Proofs.YtnmkhbelmdokmaaGreatDoor
open Go.RowKit
theorem ret_bool {a b : Bool} (h : a = b) : Ending.returned (.bool a) = .returned (.bool b) := by rw [h]
theorem ret_int {k : IntKind} {a b : Int} (h : a = b) : Ending.returned (.int k a) = .returned (.int k b) := by rw [h]
theorem bel {w W W' : World} (h : Below w.heap.size w W) (h2 : Below W.heap.size W W') : Below w.heap.size w W' := h.trans (h2.mono h.size)
/-- The text of these bytes. -/
def str (l : List UInt8) : ByteArray := ⟨l.toArray⟩
theorem str_size (l : List UInt8) : (str l).size = l.length := by simp [str, ByteArray.size]
theorem str_data (l : List UInt8) : (str l).data.toList = l := by simp [str]
theorem str_list (a : List UInt8) : (str a).toList = a := by rw [ByteArray.toList_eq, str_data]
theorem str_eq {b : ByteArray} {l : List UInt8} (h : b.data.toList = l) : b = str l := by
  subst h
  cases b
  simp [str]
theorem str_self (s : ByteArray) : str s.data.toList = s := (str_eq rfl).symm
theorem ret_text {b : ByteArray} {l : List UInt8} (h : b.data.toList = l) : Ending.returned (.string b) = .returned (.string (str l)) := by rw [str_eq h]
theorem str_beq_yes {a b : List UInt8} (h : a = b) : ((str a).toList == (str b).toList) = true := by rw [h]; simp
theorem str_beq_no {a b : List UInt8} (h : ¬ a = b) : ((str a).toList == (str b).toList) = false := by
  rw [str_list, str_list]; simpa using h
theorem data_cut (s : ByteArray) (f k : Nat) : (s.extract f k).data.toList = (s.data.toList.take k).drop f := by
  simp [ByteArray.data_extract, List.extract_eq_take_drop, List.drop_take]
theorem str_from (l : List UInt8) (k : Nat) : (str l).extract k l.length = str (l.drop k) := by
  apply str_eq
  rw [data_cut, str_data, List.take_length]
theorem str_to (l : List UInt8) (k : Nat) : (str l).extract 0 k = str (l.take k) := by
  apply str_eq
  rw [data_cut, str_data, List.drop_zero]
theorem i64_bd {n : Int} (h : (Lit.int .i64 n).wf = true) : -9223372036854775808 ≤ n ∧ n ≤ 9223372036854775807 := bounds_i64 h
def cellsB (l : List UInt8) : List Value := l.map fun c => .int .u8 c.toNat
theorem cellsB_byteCells (l : List UInt8) : cellsB l = Lib.byteCells l := rfl
def OwnsBytes (w : World) (B : Nat) (v : Value) (l : List UInt8) : Prop := w.ownsRow B 5 1 v l.length (cellsB l)
theorem OwnsBytes.nil (w : World) (B : Nat) : OwnsBytes w B (.slice none 0 0) [] := World.ownsRow_nil _ _ _ _
theorem infoByte : (Tryz.prog.info? 5).map (fun i => (i.zero, i.size, i.bytes)) = some (some (.int .u8 0), 1, 1) := by kernel_rfl
/-- A row of bytes of the call's own, made a text. -/
theorem conv_owned {W : World} {B : Nat} {v : Value} {l : List UInt8} (h : OwnsBytes W B v l) :
    (convert 62 9 v).run Tryz.prog W = .ok (.string (str l)) W := by
  have h0 := h
  rcases h.2 with ⟨rfl, hz⟩ | ⟨g, cap, cur, rfl, _, hg, hc, _, hcs, ht⟩
  · have : l = [] := List.eq_nil_of_length_eq_zero hz
    subst this
    exact run_convert_bytes_nil (P := Tryz.prog) W 62 5 Tryz.underlying62 Tryz.underlying5 0 0 9 Tryz.underlying9
  · refine run_convert_bytes_back (P := Tryz.prog) W 62 9 5 ⟨g, 0, none⟩ cap l Tryz.underlying62 Tryz.underlying5 Tryz.underlying9 (fun j hj => ?_)
    have := World.ownsRow.cellAt (w := W) (base := B) (e := 5) (size := 1) (g := g) (cap := cap) (n := l.length) (xs := cellsB l) h0 j (by omega)
    rw [show (⟨g, 0, none⟩ : Addr).add j = ⟨g, j, none⟩ from by unfold Addr.add; simp; omega, this]
    unfold cellsB
    rw [List.getElem?_map, List.getElem?_eq_getElem hj]
    rfl
def longB (s : ByteArray) : Bool := decide (3000 < s.size)
theorem long_yes {s : ByteArray} (h : 3000 < s.size) : longB s = true := decide_eq_true h
theorem long_no {s : ByteArray} (h : ¬ 3000 < s.size) : longB s = false := decide_eq_false h
end Go.Proofs.YtnmkhbelmdokmaaGreatDoor
/- Contracts of the program's and the reference's small functions on bytes. -/
namespace Go.Proofs.YtnmkhbelmdokmaaGreatDoor
open Go.RowKit
def blankN (n : Int) : Bool := decide (n = 9) || decide (n = 10) || decide (n = 12) || decide (n = 13) || decide (n = 32)
theorem blankN_byte (c : UInt8) : blankN (c.toNat : Int) = Asc.isBlank c := by
  have h : ∀ m : Nat, m < 256 → decide ((c.toNat : Int) = m) = (c == UInt8.ofNat m) := by
    intro m hm
    rw [Bool.eq_iff_iff]
    simp only [decide_eq_true_eq, beq_iff_eq]
    constructor
    · intro e
      apply UInt8.toNat_inj.1
      simp
      omega
    · intro e
      rw [e]
      simp
      omega
  unfold blankN Asc.isBlank
  have h9 := h 9 (by omega); have h10 := h 10 (by omega); have h12 := h 12 (by omega); have h13 := h 13 (by omega); have h32 := h 32 (by omega)
  simp only [Int.cast_ofNat_Int] at h9 h10 h12 h13 h32
  rw [h9, h10, h12, h13, h32]
  rfl
def digN (n : Int) : Bool := decide (48 ≤ n ∧ n ≤ 57)
def letN (n : Int) : Bool := decide ((65 ≤ n ∧ n ≤ 90) ∨ (97 ≤ n ∧ n ≤ 122))
theorem digN_yes {n : Int} (h : 48 ≤ n) (h2 : n ≤ 57) : digN n = true := decide_eq_true ⟨h, h2⟩
theorem digN_no {n : Int} (h : n < 48 ∨ 57 < n) : digN n = false := decide_eq_false (by omega)
theorem letN_yes {n : Int} (h : (65 ≤ n ∧ n ≤ 90) ∨ (97 ≤ n ∧ n ≤ 122)) : letN n = true := decide_eq_true h
theorem letN_no {n : Int} (h : ¬ ((65 ≤ n ∧ n ≤ 90) ∨ (97 ≤ n ∧ n ≤ 122))) : letN n = false := decide_eq_false h
set_option maxHeartbeats 400000 in
theorem IsDigit_n (n : Int) (w : World) :
    Calls Tryz.prog 124 #[.int .u8 n] w fun e w' => e = .returned (.bool (digN n)) ∧ w' = w := by
  rcases (show n < 48 ∨ (48 ≤ n ∧ n ≤ 57) ∨ 57 < n from by omega) with h | ⟨h, h2⟩ | h
  · rw [digN_no (.inl h)]
    go_enter Tryz.func124, Tryz.ntmps124
    go_wp2
    go_ret
    exact ⟨ret_bool (by first | rfl | (simp <;> omega)), rfl⟩
  · rw [digN_yes h h2]
    go_enter Tryz.func124, Tryz.ntmps124
    go_wp2
    go_ret
    exact ⟨ret_bool (by first | rfl | (simp <;> omega)), rfl⟩
  · rw [digN_no (.inr h)]
    have h3 : 48 ≤ n := by omega
    go_enter Tryz.func124, Tryz.ntmps124
    go_wp2
    go_ret
    exact ⟨ret_bool (by first | rfl | (simp <;> omega)), rfl⟩
set_option maxHeartbeats 400000 in
theorem RIsDigit_n (n : Int) (w : World) :
    Calls Tryz.prog 69 #[.int .u8 n] w fun e w' => e = .returned (.bool (digN n)) ∧ w' = w := by
  rcases (show n < 48 ∨ (48 ≤ n ∧ n ≤ 57) ∨ 57 < n from by omega) with h | ⟨h, h2⟩ | h
  · rw [digN_no (.inl h)]
    go_enter Tryz.func69, Tryz.ntmps69
    go_wp2
    go_ret
    exact ⟨ret_bool (by first | rfl | (simp <;> omega)), rfl⟩
  · rw [digN_yes h h2]
    go_enter Tryz.func69, Tryz.ntmps69
    go_wp2
    go_ret
    exact ⟨ret_bool (by first | rfl | (simp <;> omega)), rfl⟩
  · rw [digN_no (.inr h)]
    have h3 : 48 ≤ n := by omega
    go_enter Tryz.func69, Tryz.ntmps69
    go_wp2
    go_ret
    exact ⟨ret_bool (by first | rfl | (simp <;> omega)), rfl⟩
set_option maxHeartbeats 400000 in
theorem IsLetter_n (n : Int) (w : World) :
    Calls Tryz.prog 88 #[.int .u8 n] w fun e w' => e = .returned (.bool (letN n)) ∧ w' = w := by
  rcases (show n < 65 ∨ (65 ≤ n ∧ n ≤ 90) ∨ (90 < n ∧ n < 97) ∨ (97 ≤ n ∧ n ≤ 122) ∨ 122 < n from by omega) with h | ⟨h, h2⟩ | ⟨h, h2⟩ | ⟨h, h2⟩ | h
  · rw [letN_no (by omega)]
    go_enter Tryz.func88, Tryz.ntmps88
    go_wp2
    go_ret
    exact ⟨ret_bool (by first | rfl | (simp <;> omega)), rfl⟩
  · rw [letN_yes (by omega)]
    go_enter Tryz.func88, Tryz.ntmps88
    go_wp2
    go_ret
    exact ⟨ret_bool (by first | rfl | (simp <;> omega)), rfl⟩
  · rw [letN_no (by omega)]
    go_enter Tryz.func88, Tryz.ntmps88
    go_wp2
    go_ret
    exact ⟨ret_bool (by first | rfl | (simp <;> omega)), rfl⟩
  · rw [letN_yes (by omega)]
    go_enter Tryz.func88, Tryz.ntmps88
    go_wp2
    go_ret
    exact ⟨ret_bool (by first | rfl | (simp <;> omega)), rfl⟩
  · rw [letN_no (by omega)]
    go_enter Tryz.func88, Tryz.ntmps88
    go_wp2
    go_ret
    exact ⟨ret_bool (by first | rfl | (simp <;> omega)), rfl⟩
set_option maxHeartbeats 400000 in
theorem RIsLetter_n (n : Int) (w : World) :
    Calls Tryz.prog 68 #[.int .u8 n] w fun e w' => e = .returned (.bool (letN n)) ∧ w' = w := by
  rcases (show n < 65 ∨ (65 ≤ n ∧ n ≤ 90) ∨ (90 < n ∧ n < 97) ∨ (97 ≤ n ∧ n ≤ 122) ∨ 122 < n from by omega) with h | ⟨h, h2⟩ | ⟨h, h2⟩ | ⟨h, h2⟩ | h
  · rw [letN_no (by omega)]
    go_enter Tryz.func68, Tryz.ntmps68
    go_wp2
    go_ret
    exact ⟨ret_bool (by first | rfl | (simp <;> omega)), rfl⟩
  · rw [letN_yes (by omega)]
    go_enter Tryz.func68, Tryz.ntmps68
    go_wp2
    go_ret
    exact ⟨ret_bool (by first | rfl | (simp <;> omega)), rfl⟩
  · rw [letN_no (by omega)]
    go_enter Tryz.func68, Tryz.ntmps68
    go_wp2
    go_ret
    exact ⟨ret_bool (by first | rfl | (simp <;> omega)), rfl⟩
  · rw [letN_yes (by omega)]
    go_enter Tryz.func68, Tryz.ntmps68
    go_wp2
    go_ret
    exact ⟨ret_bool (by first | rfl | (simp <;> omega)), rfl⟩
  · rw [letN_no (by omega)]
    go_enter Tryz.func68, Tryz.ntmps68
    go_wp2
    go_ret
    exact ⟨ret_bool (by first | rfl | (simp <;> omega)), rfl⟩
end Go.Proofs.YtnmkhbelmdokmaaGreatDoor
/- Slices of texts of the call's own. -/
namespace Go.Proofs.YtnmkhbelmdokmaaGreatDoor
open Go.RowKit
theorem info9 : (Tryz.prog.info? 9).map (fun i => (i.zero, i.size, i.bytes)) = some (some (.string ByteArray.empty), 1, 16) := by kernel_rfl
def strV (l : List UInt8) : Value := .string ⟨l.toArray⟩
theorem strV_data (s : ByteArray) : strV s.data.toList = .string s := by simp [strV]
theorem strV_cut (s : ByteArray) (f k : Nat) : strV ((s.data.toList.take k).drop f) = .string (s.extract f k) := by
  rw [← data_cut, strV_data]
/-- The slice owns these texts, in memory from 'B' on. -/
def OwnsTexts (w : World) (B : Nat) (v : Value) (ts : List (List UInt8)) : Prop := w.ownsRow B 9 1 v ts.length (ts.map strV)
theorem OwnsTexts.nil (w : World) (B : Nat) : OwnsTexts w B (.slice none 0 0) [] := World.ownsRow_nil _ _ _ _
theorem OwnsTexts.of {w : World} {B : Nat} {v : Value} {ts us : List (List UInt8)} {y : List UInt8} {x : Value} (h : us = ts ++ [y]) (hx : strV y = x) (ho : w.ownsRow B 9 1 v (ts.length + 1) (ts.map strV ++ [x])) : OwnsTexts w B v us := by
  subst h; subst hx
  unfold OwnsTexts
  simpa using ho
end Go.Proofs.YtnmkhbelmdokmaaGreatDoor
/- Slices that read as texts; the reference's Texts. -/
namespace Go.Proofs.YtnmkhbelmdokmaaGreatDoor
open Go.RowKit
/-- The slice reads as these texts. -/
def ReadsTexts (w : World) (v : Value) (ts : List (List UInt8)) : Prop :=
  (∃ a c, v = .slice a 0 c ∧ ts = []) ∨ ∃ b o c, v = .slice (some ⟨b, o, none⟩) ts.length c ∧ ts.length ≤ c ∧ ∀ (j : Nat) t, ts[j]? = some t → w.cell? ⟨b, o + j, none⟩ = some (strV t)
theorem OwnsTexts.reads {w : World} {B : Nat} {v : Value} {ts : List (List UInt8)} (h : OwnsTexts w B v ts) : ReadsTexts w v ts := by
  rcases h.2 with ⟨rfl, h0⟩ | ⟨g, cap, cur, rfl, _, hg, hc, _, hcs, ht⟩
  · exact .inl ⟨_, _, rfl, List.eq_nil_of_length_eq_zero h0⟩
  · refine .inr ⟨g, 0, cap, rfl, hc, fun j t hj => ?_⟩
    have hlt : j < ts.length := (List.getElem?_eq_some_iff.1 hj).1
    have := World.ownsRow.cellAt (w := w) (base := B) (e := 9) (size := 1) (g := g) (cap := cap) (n := ts.length) (xs := ts.map strV) h j (by omega)
    rw [Nat.zero_add, this, List.getElem?_map, hj]
    rfl
end Go.Proofs.YtnmkhbelmdokmaaGreatDoor
/- The contract of the program's Hex. -/
namespace Go.Proofs.YtnmkhbelmdokmaaGreatDoor
open Go.RowKit
theorem size_data (b : ByteArray) : b.size = b.data.toList.length := Array.length_toList.symm
theorem ret_pair {a b c d : Value} (h : a = c) (h2 : b = d) : Ending.returned (.tuple #[a, b]) = .returned (.tuple #[c, d]) := by rw [h, h2]
set_option maxHeartbeats 400000 in
theorem lowerByte_n (n : Int) (w : World) (h0 : 0 ≤ n) (h1 : n ≤ 255) :
    Calls Tryz.prog 84 #[.int .u8 n] w fun e w' => e = .returned (.int .u8 (Asc.lowN n)) ∧ w' = w := by
  by_cases h : 65 ≤ n ∧ n ≤ 90
  · have HN : Hid (Asc.lowN n = n + 32) := by show _ = _; unfold Asc.lowN; rw [if_pos h]
    obtain ⟨ha, hb⟩ := h
    go_enter Tryz.func84, Tryz.ntmps84
    go_wp2
    go_ret
    exact ⟨ret_int (by rw [HN.out]; omega), rfl⟩
  · have HN : Hid (Asc.lowN n = n) := by show _ = _; unfold Asc.lowN; rw [if_neg h]
    by_cases ha : 65 ≤ n
    · have hb : ¬ n ≤ 90 := by omega
      clear h
      go_enter Tryz.func84, Tryz.ntmps84
      go_wp2
      go_ret
      exact ⟨ret_int HN.out.symm, rfl⟩
    · clear h
      go_enter Tryz.func84, Tryz.ntmps84
      go_wp2
      go_ret
      exact ⟨ret_int HN.out.symm, rfl⟩
theorem byte_bd (c : UInt8) : (0 : Int) ≤ (c.toNat : Int) ∧ (c.toNat : Int) ≤ 255 := by have := c.toNat_lt; omega
theorem lowerByte_any (c : UInt8) (w : World) :
    Calls Tryz.prog 84 #[.int .u8 c.toNat] w fun e w' => e = .returned (.int .u8 (Asc.lowerC c).toNat) ∧ w' = w := by
  rw [← Asc.lowN_byte]
  exact lowerByte_n _ _ (byte_bd c).1 (byte_bd c).2
theorem take_all (a : ByteArray) (k : Nat) (h : a.size ≤ k) : a.data.toList.take k = a.data.toList := List.take_of_length_le (by simpa using h)
set_option maxHeartbeats 400000 in
theorem hexDigit_n (n : Int) (w : World) (h0 : 0 ≤ n) (h1 : n ≤ 255) :
    Calls Tryz.prog 170 #[.int .u8 n] w fun e w' => e = .returned (.tuple #[.int .u32 (Asc.hexV n), .bool (Asc.hexOk n)]) ∧ w' = w := by
  have hbd := Asc.lowN_bd n h0 h1
  obtain ⟨hb0, hb1⟩ := hbd
  rcases (show (48 ≤ Asc.lowN n ∧ Asc.lowN n ≤ 57) ∨ (97 ≤ Asc.lowN n ∧ Asc.lowN n ≤ 102) ∨ (Asc.lowN n < 48 ∨ (57 < Asc.lowN n ∧ Asc.lowN n < 97) ∨ 102 < Asc.lowN n) from by omega) with ⟨ha, hb⟩ | ⟨ha, hb⟩ | h
  · have HN : Hid (Asc.hexV n = Asc.lowN n - 48 ∧ Asc.hexOk n = true) := Asc.hex_digit n ha hb
    go_enter Tryz.func170, Tryz.ntmps170
    go_wp2_with (first
      | (go_at_call 84; refine (lowerByte_n n _ h0 h1).mono ?_; rintro e w1 ⟨rfl, hw⟩; rw [hw]; clear hw)
      | go_in)
    go_ret2
    exact ⟨ret_pair (by rw [HN.out.1]; rfl) (by rw [HN.out.2]; rfl), rfl⟩
  · have HN : Hid (Asc.hexV n = Asc.lowN n - 97 + 10 ∧ Asc.hexOk n = true) := Asc.hex_letter n ha hb
    go_enter Tryz.func170, Tryz.ntmps170
    go_wp2_with (first
      | (go_at_call 84; refine (lowerByte_n n _ h0 h1).mono ?_; rintro e w1 ⟨rfl, hw⟩; rw [hw]; clear hw)
      | go_in)
    go_ret2
    exact ⟨ret_pair (by rw [HN.out.1]; rfl) (by rw [HN.out.2]; rfl), rfl⟩
  · have HN : Hid (Asc.hexV n = 0 ∧ Asc.hexOk n = false) := Asc.hex_none n h
    rcases h with ha | ⟨ha, hb⟩ | ha
    all_goals
      go_enter Tryz.func170, Tryz.ntmps170
      go_wp2_with (first
        | (go_at_call 84; refine (lowerByte_n n _ h0 h1).mono ?_; rintro e w1 ⟨rfl, hw⟩; rw [hw]; clear hw)
        | go_in)
      go_ret2
      exact ⟨ret_pair (by rw [HN.out.1]; rfl) (by rw [HN.out.2]; rfl), rfl⟩
theorem hexDigit_any (c : UInt8) (w : World) :
    Calls Tryz.prog 170 #[.int .u8 c.toNat] w fun e w' => e = .returned (.tuple #[.int .u32 (Asc.hexV (Asc.bt c)), .bool (Asc.hexOk (Asc.bt c))]) ∧ w' = w := hexDigit_n _ _ (byte_bd c).1 (byte_bd c).2
set_option maxHeartbeats 400000 in
theorem isHex_any (s : ByteArray) (w : World) (hs : s.size ≤ 1000000000) :
    Calls Tryz.prog 169 #[.string s] w fun e w' => e = .returned (.bool (Asc.hexForm s.data.toList)) ∧ w' = w := by
  go_enter Tryz.func169, Tryz.ntmps169
  go_wp2
  go_loop [8] (fun i => ∃ k : Nat, k ≤ s.size ∧ i = .int .i64 k ∧ Hid (Asc.allHex (s.data.toList.take k) = true)) (fun i => s.size - (intOf i).toNat)
  case atStart => exact ⟨0, Nat.zero_le _, rfl, rfl⟩
  case round =>
    obtain ⟨k, hk, rfl, HE⟩ := hrel
    by_cases hlt : k < s.size
    · cases hx : Asc.hexOk (Asc.bt s[k])
      · have HN : Hid ((Asc.hexForm s.data.toList) = false) := by
          show _ = _
          unfold Asc.hexForm
          rw [Asc.allHex_not s.data.toList k hlt hx]
          rfl
        go_wp2_with (first
          | (go_at_call 170; refine (hexDigit_any _ _).mono ?_; rintro e w1 ⟨rfl, hw⟩; rw [hw]; clear hw))
        go_ret
        exact ⟨ret_bool HN.out.symm, rfl⟩
      · have HN : Hid (Asc.allHex (s.data.toList.take (k + 1)) = true) := by
          show _ = _
          rw [Asc.allHex_take s.data.toList k hlt, HE.out, Bool.true_and]
          exact hx
        go_wp2_with (first
          | (go_at_call 170; refine (hexDigit_any _ _).mono ?_; rintro e w1 ⟨rfl, hw⟩; rw [hw]; clear hw))
        go_round
        case rel => exact ⟨k + 1, by omega, by go_num, HN⟩
        case measure => simp [intOf]; omega
    · have HN : Hid (Asc.allHex s.data.toList = true) := by
        have := HE.out
        rwa [take_all s k (by omega)] at this
      go_wp2
      go_ret
      exact ⟨ret_bool (by unfold Asc.hexForm; rw [HN.out, ByteArray.toList_eq]; rfl), rfl⟩
theorem or_hex (n d : Int) (h0 : 0 ≤ n) (h1 : n ≤ 268435455) (h2 : 0 ≤ d) (h3 : d ≤ 15) : bits BinOp.or IntKind.u32 (n * 16) d = n * 16 + d := by
  obtain ⟨a, rfl⟩ := Int.eq_ofNat_of_zero_le h0
  obtain ⟨b, rfl⟩ := Int.eq_ofNat_of_zero_le h2
  rw [u32_or _ _ (by omega) (by omega) (by omega) (by omega)]
  have e : ((a : Int) * 16).toNat = 2 ^ 4 * a := by omega
  rw [e, Int.toNat_natCast, ← Nat.two_pow_add_eq_or_of_lt (show b < 2 ^ 4 by omega)]
  omega
set_option maxHeartbeats 400000 in
theorem Hex_any (s : ByteArray) (w : World) (hs : s.size ≤ 1000000000) :
    Calls Tryz.prog 155 #[.string s] w fun e w' => e = .returned (.tuple #[.int .u32 (Asc.hexNum s.data.toList), .int .i64 (Asc.hexErr s.data.toList)]) ∧ w' = w := by
  cases hx : (Asc.hexForm s.data.toList)
  · have HN : Hid (Asc.hexNum s.data.toList = 0 ∧ Asc.hexErr s.data.toList = 3) := Asc.hex_form _ (Asc.hexForm_no _ hx)
    go_enter Tryz.func155, Tryz.ntmps155
    go_wp2_with (first
      | (go_at_call 169; refine (isHex_any s _ hs).mono ?_; rintro e w1 ⟨rfl, hw⟩; rw [hw]; clear hw))
    go_ret2
    exact ⟨ret_pair (by rw [HN.out.1]; rfl) (by rw [HN.out.2]; rfl), rfl⟩
  · have HA : Hid (Asc.allHex s.data.toList = true ∧ s.data.toList ≠ []) := Asc.hexForm_yes _ hx
    go_enter Tryz.func155, Tryz.ntmps155
    go_wp2_with (first
      | (go_at_call 169; refine (isHex_any s _ hs).mono ?_; rintro e w1 ⟨rfl, hw⟩; rw [hw]; clear hw))
    clear hx
    go_loop [4, 13] (fun m i => ∃ (k : Nat) (n : Int), k ≤ s.size ∧ i = .int .i64 k ∧ m = .int .u32 n ∧ 0 ≤ n ∧ n ≤ 4294967295 ∧ Hid (Asc.hexFold n (s.data.toList.drop k) = Asc.hexFold 0 s.data.toList)) (fun _ i => s.size - (intOf i).toNat)
    case atStart => exact ⟨0, 0, Nat.zero_le _, rfl, rfl, by omega, by omega, rfl⟩
    case round =>
      obtain ⟨k, n, hk, rfl, rfl, hn0, hn1, HE⟩ := hrel
      by_cases hlt : k < s.size
      · by_cases hn : 268435455 < n
        · have HN : Hid (Asc.hexNum s.data.toList = 0 ∧ Asc.hexErr s.data.toList = 5) := Asc.hex_many _ HA.out (by rw [← HE.out]; exact Asc.hexFold_stop _ k n hlt hn)
          go_wp2
          go_ret2
          exact ⟨ret_pair (by rw [HN.out.1]; rfl) (by rw [HN.out.2]; rfl), rfl⟩
        · have hv := Asc.hexV_bd (Asc.bt s[k])
          obtain ⟨hv0, hv1⟩ := hv
          have HN : Hid (Asc.hexFold (n * 16 + Asc.hexV (Asc.bt s[k])) (s.data.toList.drop (k + 1)) = Asc.hexFold 0 s.data.toList) := by
            show _ = _
            rw [← HE.out]
            exact (Asc.hexFold_next _ k n hlt (by omega)).symm
          go_wp2_with (first
            | (go_at_call 170; refine (hexDigit_any _ _).mono ?_; rintro e w1 ⟨rfl, hw⟩; rw [hw]; clear hw))
          go_round
          case rel => exact ⟨k + 1, n * 16 + Asc.hexV (Asc.bt s[k]), by omega, by go_num, by rw [or_hex n _ hn0 (by omega) hv0 hv1], by omega, by omega, HN⟩
          case measure => simp [intOf]; omega
      · have HN : Hid (Asc.hexNum s.data.toList = n ∧ Asc.hexErr s.data.toList = 0) := Asc.hex_ok _ n HA.out (by rw [← HE.out]; exact Asc.hexFold_end _ k n (by simpa using Nat.le_of_not_lt hlt))
        go_wp2
        go_ret2
        exact ⟨ret_pair (by rw [HN.out.1]; rfl) (by rw [HN.out.2]; rfl), rfl⟩
end Go.Proofs.YtnmkhbelmdokmaaGreatDoor
/- The contract of the reference's Nibble. -/
namespace Go.Proofs.YtnmkhbelmdokmaaGreatDoor
open Go.RowKit
theorem empty_yes (s : ByteArray) (h : s.size = 0) : s.toList.isEmpty = true := by
  rw [ByteArray.toList_eq, List.isEmpty_iff, ← List.length_eq_zero_iff]
  exact h
theorem empty_no (s : ByteArray) (h : ¬ s.size = 0) : s.toList.isEmpty = false := by
  rw [ByteArray.toList_eq, Bool.eq_false_iff]
  intro e
  exact h (List.length_eq_zero_iff.2 (List.isEmpty_iff.1 e))
def nibV (n : Int) : Int := if Asc.hexOk n = true then Asc.hexV n else 16
theorem nib_yes (n : Int) (h : Asc.hexOk n = true) : nibV n = Asc.hexV n := if_pos h
theorem nib_no (n : Int) (h : Asc.hexOk n = false) : nibV n = 16 := by unfold nibV; rw [h]; rfl
set_option maxHeartbeats 1000000 in
theorem Rnibble_n (n : Int) (w : World) (h0 : 0 ≤ n) (h1 : n ≤ 255) :
    Calls Tryz.prog 160 #[.int .u8 n] w fun e w' => e = .returned (.int .u32 (nibV n)) ∧ w' = w := by
  rcases (show (48 ≤ n ∧ n ≤ 57) ∨ (97 ≤ n ∧ n ≤ 102) ∨ (65 ≤ n ∧ n ≤ 70) ∨ n < 48 ∨ (57 < n ∧ n < 65) ∨ (70 < n ∧ n < 97) ∨ 102 < n from by omega) with ⟨ha, hb⟩ | ⟨ha, hb⟩ | ⟨ha, hb⟩ | ha | ⟨ha, hb⟩ | ⟨ha, hb⟩ | ha
  · have hd : digN n = true := digN_yes ha hb
    have HN : Hid (nibV n = n - 48) := by
      show _ = _
      unfold nibV Asc.hexOk Asc.hexV
      rw [if_pos (by simp [ha, hb]), if_pos ⟨ha, hb⟩]
    go_enter Tryz.func160, Tryz.ntmps160
    go_wp2_with (first
      | (go_at_call 69; refine (RIsDigit_n n _).mono ?_; rintro e w1 ⟨rfl, hw⟩; rw [hw]; clear hw))
    go_ret
    exact ⟨ret_int HN.out.symm, rfl⟩
  · have hd : digN n = false := digN_no (by omega)
    have HN : Hid (nibV n = n - 97 + 10) := by
      show _ = _
      unfold nibV Asc.hexOk Asc.hexV
      rw [if_pos (by simp [ha, hb]), if_neg (by omega), if_pos ⟨ha, hb⟩]
      omega
    go_enter Tryz.func160, Tryz.ntmps160
    go_wp2_with (first
      | (go_at_call 69; refine (RIsDigit_n n _).mono ?_; rintro e w1 ⟨rfl, hw⟩; rw [hw]; clear hw))
    go_ret
    exact ⟨ret_int HN.out.symm, rfl⟩
  · have hd : digN n = false := digN_no (by omega)
    have HN : Hid (nibV n = n - 65 + 10) := by
      show _ = _
      unfold nibV Asc.hexOk Asc.hexV
      rw [if_pos (by simp [ha, hb]), if_neg (by omega), if_neg (by omega), if_pos ⟨ha, hb⟩]
      omega
    go_enter Tryz.func160, Tryz.ntmps160
    go_wp2_with (first
      | (go_at_call 69; refine (RIsDigit_n n _).mono ?_; rintro e w1 ⟨rfl, hw⟩; rw [hw]; clear hw))
    go_ret
    exact ⟨ret_int HN.out.symm, rfl⟩
  all_goals
    have hd : digN n = false := digN_no (by omega)
    have HN : Hid (nibV n = 16) := by
      show _ = _
      unfold nibV Asc.hexOk
      rw [decide_eq_false (by omega), decide_eq_false (by omega), decide_eq_false (by omega)]
      rfl
    go_enter Tryz.func160, Tryz.ntmps160
    go_wp2_with (first
      | (go_at_call 69; refine (RIsDigit_n n _).mono ?_; rintro e w1 ⟨rfl, hw⟩; rw [hw]; clear hw))
    go_ret
    exact ⟨ret_int HN.out.symm, rfl⟩
theorem Rnibble_any (c : UInt8) (w : World) :
    Calls Tryz.prog 160 #[.int .u8 c.toNat] w fun e w' => e = .returned (.int .u32 (nibV (Asc.bt c))) ∧ w' = w := Rnibble_n _ _ (byte_bd c).1 (byte_bd c).2
end Go.Proofs.YtnmkhbelmdokmaaGreatDoor
/- Contracts of Split, the program's and the reference's. -/
namespace Go.Proofs.YtnmkhbelmdokmaaGreatDoor
open Go.RowKit
theorem byte_eq_yes {a b : UInt8} (h : a = b) : ((a.toNat : Int) == (b.toNat : Int)) = true := by rw [h]; simp
theorem byte_eq_no {a b : UInt8} (h : ¬ a = b) : ((a.toNat : Int) == (b.toNat : Int)) = false := by
  rw [beq_eq_false_iff_ne]
  intro e
  exact h (UInt8.toNat_inj.1 (by omega))
set_option maxHeartbeats 400000 in
theorem Split_any (s : ByteArray) (c : UInt8) (w : World) (hs : s.size ≤ 1000000000) :
    Calls Tryz.prog 96 #[.string s, .int .u8 c.toNat] w fun e w' => ∃ v, e = .returned v ∧ OwnsTexts w' w.heap.size v (Asc.split s.data.toList c) ∧ Below w.heap.size w w' := by
  obtain ⟨i0, hi, hz0, hz1, hz2⟩ := info_parts info9
  go_enter Tryz.func96, Tryz.ntmps96
  go_wp2
  go_loopw [5, 6, 10] (fun v fr i wr => ∃ k f : Nat, k ≤ s.size ∧ i = .int .i64 k ∧ fr = .int .i64 f ∧ f ≤ k ∧ Hid ((Asc.sst c (s.data.toList.take k)).2 = (s.data.toList.take k).drop f) ∧
    OwnsTexts wr w.heap.size v (Asc.sst c (s.data.toList.take k)).1 ∧ Below w.heap.size w wr) (fun _ _ i _ => s.size - (intOf i).toNat)
  case atStart => exact ⟨0, 0, Nat.zero_le _, rfl, rfl, Nat.le_refl _, by show _ = _; simp [Asc.sst], OwnsTexts.nil _ _, Below.refl _ _⟩
  case round =>
    obtain ⟨k, f, hk, rfl, rfl, hf, HC, hown, hbel⟩ := hrel
    have hwl := (Asc.sst_len c (s.data.toList.take k)).1
    have htl : (s.data.toList.take k).length = k := by rw [List.length_take]; exact Nat.min_eq_left hk
    rw [htl] at hwl
    clear htl
    by_cases hlt : k < s.size
    · by_cases hb : s[k] = c
      · have hq := byte_eq_yes hb
        have HN : Hid (Asc.sst c (s.data.toList.take (k + 1)) = ((Asc.sst c (s.data.toList.take k)).1 ++ [(s.data.toList.take k).drop f], [])) := Asc.split_cut c _ k f hlt hb HC.out
        clear hb
        go_wp2_with (first
          | (at_builtin; refine wpList_append_own _ rfl _ _ 39 rfl w.heap.size 9 i0 (.string ByteArray.empty) 1 16 Tryz.underlying39 hi hz0 hz1 hz2 rfl (by decide) _ _ _ rfl (World.ownsRow.alloc hown _) ⟨wr.heap.size, 0, none⟩ 1 1 [.string (s.extract f k)] rfl rfl (cell_one_new _ _ _) (fun x hx => by simp at hx; subst hx; rfl) (by unfold maxLen; omega) (by omega) (by have := hbel.size; simp; omega) ?_; intro v' w3 hown' hgrow3 hnil3))
        go_roundw
        case rel => exact ⟨k + 1, k + 1, by omega, by go_num, by go_num, by omega, by show _ = _; rw [HN.out]; simp, OwnsTexts.of (congrArg Prod.fst HN.out) (strV_cut s f k) hown', (hbel.alloc hbel.size _).grown hgrow3 (by have := hbel.size; simp; omega) (fun q hq => (World.ownsRow.lt hown q hq).1)⟩
        case measure => simp [intOf]; omega
      · have hq := byte_eq_no hb
        have HN : Hid (Asc.sst c (s.data.toList.take (k + 1)) = ((Asc.sst c (s.data.toList.take k)).1, (s.data.toList.take (k + 1)).drop f)) := Asc.split_on c _ k f hlt hb hf HC.out
        clear hb
        go_wp2
        go_roundw
        case rel => exact ⟨k + 1, f, by omega, by go_num, rfl, by omega, by show _ = _; rw [HN.out], by rw [HN.out]; exact hown, hbel⟩
        case measure => simp [intOf]; omega
    · have HN : Hid (Asc.split s.data.toList c = (Asc.sst c (s.data.toList.take k)).1 ++ [(s.data.toList.take s.size).drop f]) := by
        show _ = _
        have h1 := HC.out
        rw [take_all s k (by omega)] at h1 ⊢
        rw [take_all s s.size (Nat.le_refl _), Asc.split, h1]
      go_wp2_with (first
        | (at_builtin; refine wpList_append_own _ rfl _ _ 39 rfl w.heap.size 9 i0 (.string ByteArray.empty) 1 16 Tryz.underlying39 hi hz0 hz1 hz2 rfl (by decide) _ _ _ rfl (World.ownsRow.alloc hown _) ⟨wr.heap.size, 0, none⟩ 1 1 [.string (s.extract f s.size)] rfl rfl (cell_one_new _ _ _) (fun x hx => by simp at hx; subst hx; rfl) (by unfold maxLen; omega) (by omega) (by have := hbel.size; simp; omega) ?_; intro v' w3 hown' hgrow3 hnil3))
      go_ret
      exact ⟨_, rfl, OwnsTexts.of HN.out (strV_cut s f s.size) hown', (hbel.alloc hbel.size _).grown hgrow3 (by have := hbel.size; simp; omega) (fun q hq => (World.ownsRow.lt hown q hq).1)⟩
theorem cut_size (b : ByteArray) (f t : Nat) (h : t ≤ b.size) : (b.extract f t).size = t - f := by
  rw [size_data, data_cut, List.length_drop, List.length_take, ← size_data]
  omega
theorem cut_one (s : ByteArray) (k : Nat) (h : k < s.size) : (s.extract k (k + 1)).data.toList = [s[k]] := by
  rw [data_cut, List.take_succ_eq_append_getElem (show k < s.data.toList.length from by rw [← size_data]; exact h), List.drop_append_of_le_length (by rw [List.length_take, ← size_data]; omega), List.drop_eq_nil_of_le (by rw [List.length_take]; omega)]
  rfl
theorem sst_cut (s : ByteArray) (c : UInt8) (k : Nat) (h : k < s.size) (hb : s[k] = c) : Asc.sst c (s.data.toList.take (k + 1)) = ((Asc.sst c (s.data.toList.take k)).1 ++ [(Asc.sst c (s.data.toList.take k)).2], []) := by
  have e : Asc.sst c (s.data.toList.take (k + 1)) = Asc.sstep c (Asc.sst c (s.data.toList.take k)) s[k] := Asc.sst_next c s.data.toList k h
  rw [e, Asc.sstep, if_pos hb]
theorem sst_on (s : ByteArray) (c : UInt8) (k : Nat) (h : k < s.size) (hb : ¬ s[k] = c) : Asc.sst c (s.data.toList.take (k + 1)) = ((Asc.sst c (s.data.toList.take k)).1, (Asc.sst c (s.data.toList.take k)).2 ++ [s[k]]) := by
  have e : Asc.sst c (s.data.toList.take (k + 1)) = Asc.sstep c (Asc.sst c (s.data.toList.take k)) s[k] := Asc.sst_next c s.data.toList k h
  rw [e, Asc.sstep, if_neg hb]
theorem owns_first (w : World) : OwnsTexts (w.alloc (.cells #[.string ⟨#[]⟩] 9)) w.heap.size (.slice (some ⟨w.heap.size, 0, none⟩) 1 1) [[]] :=
  ⟨rfl, .inr ⟨w.heap.size, 1, #[.string ⟨#[]⟩], rfl, Nat.le_refl _, heap_alloc_new w _, Nat.le_refl _, by decide, rfl, rfl⟩⟩
/-- What the row holds at the loop's head: the parts that are whole, and n bytes of the one under way. -/
theorem last_cell (ts : List (List UInt8)) (t : List UInt8) : ((ts ++ [t]).map strV)[ts.length]? = some (.string (str t)) := by
  rw [List.map_append, List.getElem?_append_right (by simp)]
  simp [strV, str]
theorem last_set (ts : List (List UInt8)) (t u : List UInt8) : ((ts ++ [t]).map strV).set ts.length (.string (str u)) = (ts ++ [u]).map strV := by
  rw [List.map_append, List.set_append_right _ _ (by simp)]
  simp [strV, str]
theorem owns_same {W : World} {B g cap : Nat} {ts : List (List UInt8)} {t u : List UInt8} (h : W.ownsRow B 9 1 (.slice (some ⟨g, 0, none⟩) (ts ++ [t]).length cap) (ts ++ [t]).length ((ts ++ [u]).map strV)) : OwnsTexts W.drew B (.slice (some ⟨g, 0, none⟩) (ts ++ [t]).length cap) (ts ++ [u]) := by
  unfold OwnsTexts
  rw [show (ts ++ [u]).length = (ts ++ [t]).length from by simp]
  exact h.drew
set_option maxHeartbeats 1000000 in
theorem RSplit_any (s : ByteArray) (c : UInt8) (w : World) (hs : s.size ≤ 1000000000) :
    Calls Tryz.prog 135 #[.string s, .int .u8 c.toNat] w fun e w' => ∃ v, e = .returned v ∧ OwnsTexts w' w.heap.size v (Asc.split s.data.toList c) ∧ Below w.heap.size w w' := by
  obtain ⟨i0, hi, hz0, hz1, hz2⟩ := info_parts info9
  go_enter Tryz.func135, Tryz.ntmps135
  go_wp2
  go_loopw [5, 6] (fun v i wr => ∃ (k : Nat) (ts : List (List UInt8)) (t : List UInt8), k ≤ s.size ∧ i = .int .i64 k ∧ ts.length ≤ k ∧ t.length ≤ k ∧ Hid (Asc.sst c (s.data.toList.take k) = (ts, t)) ∧ OwnsTexts wr w.heap.size v (ts ++ [t]) ∧ Below w.heap.size w wr) (fun _ i _ => s.size - (intOf i).toNat)
  case atStart => exact ⟨0, [], [], Nat.zero_le _, rfl, Nat.le_refl _, Nat.le_refl _, rfl, owns_first w, (Below.refl _ _).alloc (Nat.le_refl _) _⟩
  case round =>
    obtain ⟨k, ts, t, hk, rfl, htk, htl, HR, hown, hbel⟩ := hrel
    have hlen : (ts ++ [t]).length = ts.length + 1 := by simp
    by_cases hlt : k < s.size
    · by_cases hb : s[k] = c
      · have hq := byte_eq_yes hb
        have HN : Hid (Asc.sst c (s.data.toList.take (k + 1)) = (ts ++ [t], [])) := by
          show _ = _
          rw [sst_cut s c k hlt hb, HR.out]
        have HL : Hid ((ts ++ [t]).length = ts.length + 1) := hlen
        have hl2 : (ts ++ [t]).length ≤ 1000000001 := by omega
        clear hb hlen
        go_wp2_with (first
          | (at_builtin; refine wpList_append_own _ rfl _ _ 39 rfl w.heap.size 9 i0 (.string ByteArray.empty) 1 16 Tryz.underlying39 hi hz0 hz1 hz2 rfl (by decide) _ _ _ rfl (World.ownsRow.alloc hown _) ⟨wr.heap.size, 0, none⟩ 1 1 [.string ⟨#[]⟩] rfl rfl (cell_one_new _ _ _) (fun x hx => by simp at hx; subst hx; rfl) (by unfold maxLen; omega) (by omega) (by have := hbel.size; simp; omega) ?_; intro v' w3 hown' hgrow3 hnil3))
        go_roundw
        case rel => exact ⟨k + 1, ts ++ [t], [], by omega, by go_num, by have := HL.out; omega, Nat.zero_le _, HN, OwnsTexts.of rfl rfl hown', (hbel.alloc hbel.size _).grown hgrow3 (by have := hbel.size; simp; omega) (fun q hq => (World.ownsRow.lt hown q hq).1)⟩
        case measure => simp [intOf]; omega
      · have hq := byte_eq_no hb
        obtain ⟨g, cap, rfl⟩ := Joins.ownsRow_form hown (by omega)
        have hcell : wr.cell? ⟨g, ts.length, none⟩ = some (.string (str t)) := (World.ownsRow.cellAt (w := wr) hown ts.length (by omega)).trans (last_cell ts t)
        have hfr := World.ownsRow.frozenAt (w := wr) hown ts.length
        have hz : (str t ++ s.extract k (k + 1)) = str (t ++ [s[k]]) := str_eq (by rw [ByteArray.data_append, Array.toList_append, str_data, cut_one s k hlt])
        have hst := World.ownsRow.stored (w := wr) hown ts.length (.string (str (t ++ [s[k]])))
        rw [last_set] at hst
        have HS := show Hid _ from hst
        have HZ : Hid (str t ++ s.extract k (k + 1) = str (t ++ [s[k]])) := hz
        have HN : Hid (Asc.sst c (s.data.toList.take (k + 1)) = (ts, t ++ [s[k]])) := by
          show _ = _
          rw [sst_on s c k hlt hb, HR.out]
        have hts : (str t).size ≤ 1000000000 := by rw [str_size]; omega
        have hcz : (s.extract k (k + 1)).size ≤ 1 := by rw [cut_size s k (k + 1) (by omega)]; omega
        have hl1 : ((ts ++ [t]).length : Int) - 1 = (ts.length : Int) := by omega
        have HG : Hid (w.heap.size ≤ g) := (World.ownsRow.lt hown g rfl).1
        have HL : Hid ((ts ++ [t]).length = ts.length + 1) := hlen
        clear hlen
        clear hb hst hz hown
        go_wp2
        go_region
        rw [HZ.out]
        go_wp2
        go_roundw
        case rel => exact ⟨k + 1, ts, t ++ [s[k]], by omega, by go_num, by omega, by rw [List.length_append]; simp; omega, HN, owns_same HS.out.1, (hbel.setCell HG.out _).drew⟩
        case measure => simp [intOf]; omega
    · have HN : Hid (Asc.split s.data.toList c = ts ++ [t]) := by
        have h1 := HR.out
        rw [take_all s k (by omega)] at h1
        show _ = _
        rw [Asc.split, h1]
      go_wp2
      go_ret
      exact ⟨_, rfl, by rw [HN.out]; exact hown, hbel⟩
end Go.Proofs.YtnmkhbelmdokmaaGreatDoor
/- The contracts of utf.shape and utf.part. -/
namespace Utf
def lo' (b : Nat) : Nat := if sz b ≤ 1 then 0 else lo b
def hi' (b : Nat) : Nat := if sz b ≤ 1 then 0 else hi b
def lowAt (b k : Nat) : Nat := if k = 1 then lo' b else 128
def highAt (b k : Nat) : Nat := if k = 1 then hi' b else 191
theorem sz_le4 (b : Nat) : sz b ≤ 4 := by
  unfold sz
  repeat' split
  all_goals omega
theorem lo_hi' {b : Nat} (h : ¬ sz b ≤ 1) : lo' b = lo b ∧ hi' b = hi b := by unfold lo' hi'; rw [if_neg h, if_neg h]; exact ⟨rfl, rfl⟩
theorem bad_at (b k x : Nat) (h : 1 < sz b) (hb : x < lowAt b k ∨ highAt b k < x) : (k = 1 → x < lo b ∨ hi b < x) ∧ (k ≠ 1 → x < 128 ∨ 191 < x) := by
  have e' := lo_hi' (b := b) (by omega)
  unfold lowAt highAt at hb
  rw [e'.1, e'.2] at hb
  constructor
  · intro e; rw [if_pos e, if_pos e] at hb; exact hb
  · intro e; rw [if_neg e, if_neg e] at hb; exact hb
theorem good_at (b k x : Nat) (h : 1 < sz b) (hb : ¬ (x < lowAt b k ∨ highAt b k < x)) : (k = 1 → lo b ≤ x ∧ x ≤ hi b) ∧ (k ≠ 1 → 128 ≤ x ∧ x ≤ 191) := by
  have e' := lo_hi' (b := b) (by omega)
  unfold lowAt highAt at hb
  rw [e'.1, e'.2] at hb
  constructor
  · intro e; rw [if_pos e, if_pos e] at hb; omega
  · intro e; rw [if_neg e, if_neg e] at hb; omega
theorem part_fail (l : List UInt8) (k : Nat) (h1 : 1 ≤ k) (hk : k ≤ (part l).1) (hs : k < sz (at' l 0)) (hb : at' l k < lowAt (at' l 0) k ∨ highAt (at' l 0) k < at' l k) : part l = (k, false) := by
  have hs4 := sz_le4 (at' l 0)
  obtain ⟨b1, b2⟩ := bad_at _ _ _ (by omega) hb
  clear hb
  have h3 : k = 1 ∨ k = 2 ∨ k = 3 := by omega
  unfold part partN at *
  revert hk
  rcases h3 with rfl | rfl | rfl
  · have := b1 rfl
    repeat' split
    all_goals intro hk
    all_goals first | rfl | (exfalso; omega)
  · have := b2 (by omega)
    repeat' split
    all_goals intro hk
    all_goals dsimp only at hk
    all_goals first | rfl | (exfalso; omega)
  · have := b2 (by omega)
    repeat' split
    all_goals intro hk
    all_goals dsimp only at hk
    all_goals first | rfl | (exfalso; omega)
theorem part_good (l : List UInt8) (k : Nat) (h1 : 1 ≤ k) (hk : k ≤ (part l).1) (hs : k < sz (at' l 0)) (hl : k < l.length) (hb : ¬ (at' l k < lowAt (at' l 0) k ∨ highAt (at' l 0) k < at' l k)) : k + 1 ≤ (part l).1 := by
  have hs4 := sz_le4 (at' l 0)
  obtain ⟨b1, b2⟩ := good_at _ _ _ (by omega) hb
  clear hb
  have h3 : k = 1 ∨ k = 2 ∨ k = 3 := by omega
  unfold part partN at *
  revert hk
  rcases h3 with rfl | rfl | rfl
  · have := b1 rfl
    repeat' split
    all_goals intro hk
    all_goals dsimp only at hk ⊢
    all_goals omega
  · have := b2 (by omega)
    repeat' split
    all_goals intro hk
    all_goals dsimp only at hk ⊢
    all_goals omega
  · have := b2 (by omega)
    repeat' split
    all_goals intro hk
    all_goals dsimp only at hk ⊢
    all_goals omega
theorem part_end (l : List UInt8) (k : Nat) (h : l ≠ []) (h1 : 1 ≤ k) (hk : k ≤ (part l).1) (hs : ¬ (k < sz (at' l 0) ∧ k < l.length)) : part l = (k, decide (k = sz (at' l 0))) := by
  have h4 := part_le4 l
  have hn := len_pos h
  have hs4 := sz_le4 (at' l 0)
  have hk4 : k ≤ 4 := by omega
  unfold part partN at *
  revert hk
  repeat' split
  all_goals intro hk
  all_goals dsimp only at hk
  all_goals first | (exfalso; omega) | skip
  all_goals rw [Prod.mk.injEq]
  all_goals refine ⟨by omega, ?_⟩
  all_goals symm
  all_goals first | (apply decide_eq_true; omega) | (apply decide_eq_false; omega)
end Utf
namespace Go.Proofs.YtnmkhbelmdokmaaGreatDoor
open Go.RowKit
theorem at_get (s : ByteArray) (k : Nat) (h : k < s.size) : s[k].toNat = Utf.at' s.data.toList k := by
  unfold Utf.at'
  rw [List.getD_eq_getElem?_getD, List.getElem?_eq_getElem (show k < s.data.toList.length from h)]
  rfl
theorem beq_nat (a b : Nat) : ((a : Int) == (b : Int)) = decide (a = b) := by
  rw [Bool.eq_iff_iff, beq_iff_eq, decide_eq_true_iff]
  omega
theorem quiet_more {w wr : World} (h : ∃ m, wr = w.drewN m) (n : Nat) : ∃ m, wr.drewN n = w.drewN m := by
  obtain ⟨m, rfl⟩ := h
  exact ⟨m + n, World.drewN_drewN _ _ _⟩
end Go.Proofs.YtnmkhbelmdokmaaGreatDoor
/- The contracts of utf.Cut, and of the law's own 'long'. -/
namespace Go.Proofs.YtnmkhbelmdokmaaGreatDoor
open Go.RowKit
theorem drop_ne {l : List UInt8} {k : Nat} (h : k < l.length) : l.drop k ≠ [] := by
  intro e
  have := congrArg List.length e
  rw [List.length_drop, List.length_nil] at this
  omega
end Go.Proofs.YtnmkhbelmdokmaaGreatDoor
/- The contract of utf.IsText: a range over the bytes, sign by sign. -/
namespace Go.Proofs.YtnmkhbelmdokmaaGreatDoor
open Go.RowKit
theorem get_str (l : List UInt8) (i : Nat) : ((str l).get! i).toNat = Utf.at' l i := by
  unfold Utf.at' str
  rw [List.getD_eq_getElem?_getD]
  simp [ByteArray.get!]
  rfl
/-- What a range over a text meets at a place. -/
theorem dec_at (l : List UInt8) (k : Nat) : Utf8.decode (str l) k = Utf.dec (l.drop k) := by
  rw [Lib.decode_at, str_size, get_str, get_str, get_str, get_str]
  unfold Utf.dec
  rw [List.length_drop, Utf.at_drop, Utf.at_drop, Utf.at_drop, Utf.at_drop]
  rfl
theorem prefix_mark (l : List UInt8) : Lib.hasPrefix l [239, 191, 189] = decide (l.take 3 = [239, 191, 189]) := by
  unfold Lib.hasPrefix
  rw [Bool.eq_iff_iff, decide_eq_true_iff, List.isPrefixOf_iff_prefix, List.prefix_iff_eq_take]
  exact ⟨fun h => h.symm, fun h => h.symm⟩
theorem next_any (l : List UInt8) (wr : World) (b k : Nat) (hit : wr.heap[b]? = some (.stringIter (str l) k)) (hk : k < l.length) (ty : TypeId) :
    (Instr.next (.pointer (some ⟨b, 0, none⟩)) true ty).run Tryz.prog wr = .ok (.tuple #[.bool true, .int .i64 k, .int .i32 (Utf.dec (l.drop k)).1]) (wr.iterAt b (str l) (k + (Utf.dec (l.drop k)).2)) := by
  have := Lib.run_next_any_at (P := Tryz.prog) wr b (str l) k ty hit (by rw [str_size]; exact hk)
  rw [dec_at] at this
  exact this
theorem next_end (l : List UInt8) (wr : World) (b k : Nat) (hit : wr.heap[b]? = some (.stringIter (str l) k)) (hk : ¬ k < l.length) (ty : TypeId) :
    (Instr.next (.pointer (some ⟨b, 0, none⟩)) true ty).run Tryz.prog wr = .ok (.tuple #[.bool false]) wr :=
  Lib.run_next_end_at (P := Tryz.prog) wr b (str l) k ty hit (by rw [str_size]; exact hk)
end Go.Proofs.YtnmkhbelmdokmaaGreatDoor
/- The contracts of strings.Builder's copyCheck and WriteRune at this translation, in which copyCheck's panic is a wall: a builder that the call itself has made. -/
namespace Go.Proofs.YtnmkhbelmdokmaaGreatDoor
open Go.RowKit
theorem sizeBuilder : (Tryz.prog.info? 64).map (·.size) = some 2 := by kernel_rfl
set_option maxHeartbeats 1000000 in
set_option maxRecDepth 100000 in
theorem copyCheck_used (b : Nat) (w : World) (h0 : w.cell? ⟨b, 0, none⟩ = some (.pointer (some ⟨b, 0, none⟩))) :
    Calls Tryz.prog 83 #[.pointer (some ⟨b, 0, none⟩)] w fun e w' => e = .returned (.tuple #[]) ∧ w' = w := by
  obtain ⟨j, hj, hjs⟩ := Option.map_eq_some_iff.1 sizeBuilder
  go_enter Tryz.func83, Tryz.ntmps83
  go_wp2
  rw [Lib.run_neq_ptr_same w _ Tryz.underlying61 hj]
  go_wp2
  go_end0
  exact ⟨rfl, rfl⟩
/-- A builder's address, made a bare one, and back. -/
theorem to_bare (b : Nat) (w : World) (hsh : w.shape? b = some (64, 2)) :
    (convert 61 109 (.pointer (some ⟨b, 0, none⟩))).run Tryz.prog w = .ok (.pointer (some ⟨b, 0, none⟩)) w := by
  obtain ⟨j, hj, hjs⟩ := Option.map_eq_some_iff.1 sizeBuilder
  simp [convert, run_underlying Tryz.underlying61, run_underlying Tryz.underlying109, Conv.unsafePointer, Conv.seenAt, viewAt, cellsIn, hsh, sizeOf, typeInfo, hj, hjs]
theorem liesB : liesAt Tryz.prog Tryz.prog.depth 64 (2 / Tryz.prog.cellsOf 64) 0 64 1 = true := by kernel_rfl
theorem of_bare (b : Nat) (w : World) (hsh : w.shape? b = some (64, 2)) :
    (convert 109 61 (.pointer (some ⟨b, 0, none⟩))).run Tryz.prog w = .ok (.pointer (some ⟨b, 0, none⟩)) w := by
  obtain ⟨j, hj, hjs⟩ := Option.map_eq_some_iff.1 sizeBuilder
  simp [convert, run_underlying Tryz.underlying61, run_underlying Tryz.underlying109, Conv.unsafePointer, Conv.seenAt, viewAt, hsh, variablesAt, liesB, sizeOf, typeInfo, hj]
set_option maxHeartbeats 1000000 in
set_option maxRecDepth 100000 in
theorem copyCheck_fresh (b : Nat) (w : World) (h0 : w.cell? ⟨b, 0, none⟩ = some (.pointer none)) (hsh : w.shape? b = some (64, 2)) (hfz : w.frozen? ⟨b, 0, none⟩ = false) :
    Calls Tryz.prog 83 #[.pointer (some ⟨b, 0, none⟩)] w fun e w' => e = .returned (.tuple #[]) ∧ w' = w.setCell ⟨b, 0, none⟩ (.pointer (some ⟨b, 0, none⟩)) := by
  go_enter Tryz.func83, Tryz.ntmps83
  go_wp2
  rw [to_bare b w hsh]
  simp only [Result.andThen]
  rw [Oper.upon_value]
  go_wp2
  rw [run_callFunc_extern Tryz.func118 (by kernel_rfl) (by kernel_rfl) (by kernel_rfl) (e := Extern.AbiNoEscape.same) (by kernel_rfl)]
  rw [Lib.run_noEscape]
  simp only [Result.andThen]
  rw [Oper.upon_value]
  go_wp2
  rw [of_bare b w hsh]
  simp only [Result.andThen]
  rw [Oper.upon_value]
  go_wp2
  go_end0
  exact ⟨rfl, rfl⟩
theorem copyCheck_k (B b : Nat) (bs : List Value) (w : World) (h : Lib.IsBuilderF 64 5 B b bs w) :
    Calls Tryz.prog 83 #[.pointer (some ⟨b, 0, none⟩)] w fun e w' => e = .returned (.tuple #[]) ∧ (Lib.BuilderAtF 64 5 B b (.pointer (some ⟨b, 0, none⟩)) bs w' ∧ Below B w w' ∧ Lib.OthersKept 5 (some b) w w') := by
  rcases h with h | h
  · refine (copyCheck_fresh b w h.cell0 h.shape h.frozen0).mono ?_
    rintro e w' ⟨rfl, rfl⟩
    exact ⟨rfl, h.used _, (Below.refl B w).setCell (p := ⟨b, 0, none⟩) h.1 _, (Lib.OthersKept.refl _ _ w).setCell ⟨b, 0, none⟩ rfl _⟩
  · refine (copyCheck_used b w h.cell0).mono ?_
    rintro e w' ⟨rfl, hw⟩
    rw [hw]
    exact ⟨rfl, h, Below.refl B _, Lib.OthersKept.refl _ _ _⟩
end Go.Proofs.YtnmkhbelmdokmaaGreatDoor
/- The contract of utf.Repair: a builder written in a range over the bytes. -/
namespace Go.Proofs.YtnmkhbelmdokmaaGreatDoor
open Go.RowKit
theorem builder_drewN {T e : TypeId} {B b : Nat} {bs : List Value} {w : World} (n : Nat) (h : Lib.IsBuilderF T e B b bs w) : Lib.IsBuilderF T e B b bs (w.drewN n) := by
  unfold Lib.IsBuilderF Lib.BuilderAtF World.ownsRowF at *
  simpa using h
theorem below_drewN {B : Nat} {w w' : World} (n : Nat) (h : Below B w w') : Below B w (w'.drewN n) :=
  ⟨h.os, h.tape, h.output, by simpa using h.size, by simpa using h.block⟩
end Go.Proofs.YtnmkhbelmdokmaaGreatDoor
/- The contracts of slices.Clone at []byte, and of utf.Put. -/
namespace Go.Proofs.YtnmkhbelmdokmaaGreatDoor
open Go.RowKit
theorem cell_lt {w : World} {a : Addr} {v : Value} (h : w.cell? a = some v) : a.block < w.heap.size := by
  by_cases hs : a.block < w.heap.size
  · exact hs
  · unfold World.cell? at h
    rw [Array.getElem?_eq_none (by omega)] at h
    simp at h
theorem cell_alloc {w : World} {a : Addr} {v : Value} {o : Obj} (h : w.cell? a = some v) : (w.alloc o).cell? a = some v := by
  rw [World.cell?_alloc_lt _ _ _ (cell_lt h), h]
/-- The slice reads as these cells. -/
def ReadsCells (w : World) (v : Value) (xs : List Value) : Prop :=
  (∃ a c, v = .slice a 0 c ∧ xs = []) ∨ ∃ b o c, v = .slice (some ⟨b, o, none⟩) xs.length c ∧ xs.length ≤ c ∧ ∀ (j : Nat) x, xs[j]? = some x → w.cell? ⟨b, o + j, none⟩ = some x
theorem ReadsCells.below {w w' : World} {v : Value} {xs : List Value} (h : ReadsCells w v xs) (hb : Below w.heap.size w w') : ReadsCells w' v xs := by
  rcases h with h | ⟨b, o, c, rfl, hc, hr⟩
  · exact .inl h
  · exact .inr ⟨b, o, c, rfl, hc, fun j t hj => (hb.cell (p := ⟨b, o + j, none⟩) (cell_lt (hr j t hj))).trans (hr j t hj)⟩
theorem ReadsCells.nil (w : World) : ReadsCells w (.slice none 0 0) [] := .inl ⟨_, _, rfl, rfl⟩
theorem owns_reads {w : World} {B e : Nat} {v : Value} {xs : List Value} (h : w.ownsRow B e 1 v xs.length xs) : ReadsCells w v xs := by
  have h0 := h
  rcases h.2 with ⟨rfl, hz⟩ | ⟨g, cap, cur, rfl, _, hg, hc, _, hcs, ht⟩
  · exact .inl ⟨_, _, rfl, List.eq_nil_of_length_eq_zero hz⟩
  · refine .inr ⟨g, 0, cap, rfl, hc, fun j x hj => ?_⟩
    have hlt : j < xs.length := (List.getElem?_eq_some_iff.1 hj).1
    have := World.ownsRow.cellAt (w := w) (base := B) (e := e) (size := 1) (g := g) (cap := cap) (n := xs.length) (xs := xs) h0 j (by omega)
    rw [Nat.zero_add, this, hj]
theorem cellsB_length (l : List UInt8) : (cellsB l).length = l.length := by simp [cellsB]
theorem OwnsBytes.reads {w : World} {B : Nat} {v : Value} {l : List UInt8} (h : OwnsBytes w B v l) : ReadsCells w v (cellsB l) := by
  apply owns_reads (B := B) (e := 5)
  rw [cellsB_length]
  exact h
theorem one_cell (l : List UInt8) : ∀ u ∈ cellsB l, u.oneCell' = true := by
  intro u hu
  obtain ⟨c, _, rfl⟩ := List.mem_map.1 hu
  rfl
theorem add_addr (b o j : Nat) : (⟨b, o, none⟩ : Addr).add j = ⟨b, o + j, none⟩ := by
  unfold Addr.add
  simp
theorem heap_new (w : World) (o : Obj) : (w.alloc o).heap[w.heap.size]? = some o := by
  show (w.heap.push o)[w.heap.size]? = _
  simp
theorem is_nil (w : World) (a : Option Addr) (n c : Nat) : (binOp .eql 62 (.slice a n c) (.slice none 0 0)).run Tryz.prog w = .ok (.bool a.isNone) w := by
  simp only [binOp]
  simp [run_equal_slice_nil w 62 5 a n c Tryz.underlying62]
def cellsR (cs : List Int) : List Value := cs.map fun c => .int .i32 c
theorem cellsR_length (cs : List Int) : (cellsR cs).length = cs.length := by simp [cellsR]
def inR (c : Int) : Prop := -2147483648 ≤ c ∧ c ≤ 2147483647
def puts (cs : List Int) : List UInt8 := cs.flatMap Lib.encodeRune
theorem puts_len (cs : List Int) : (puts cs).length ≤ 4 * cs.length := by
  induction cs with
  | nil => exact Nat.le_refl _
  | cons c cs ih =>
    unfold puts at *
    rw [List.flatMap_cons, List.length_append, List.length_cons]
    have := (Utf.enc_len c).1
    omega
theorem puts_snoc (cs : List Int) (k : Nat) (c : Int) (h : cs[k]? = some c) : puts (cs.take (k + 1)) = puts (cs.take k) ++ Lib.encodeRune c := by
  obtain ⟨hlt, rfl⟩ := List.getElem?_eq_some_iff.1 h
  unfold puts
  rw [List.take_succ_eq_append_getElem hlt, List.flatMap_append]
  simp
theorem bytes_put (l : List UInt8) (c : Int) : cellsB l ++ Lib.runeCells c = cellsB (l ++ Lib.encodeRune c) := by
  rw [← Lib.byteCells_encodeRune, cellsB_byteCells, cellsB_byteCells, Lib.byteCells_append]
end Go.Proofs.YtnmkhbelmdokmaaGreatDoor
/- The contract of the program's Join. -/
namespace Go.Proofs.YtnmkhbelmdokmaaGreatDoor
open Go.RowKit
theorem ReadsTexts.alloc {w : World} {v : Value} {ts : List (List UInt8)} (h : ReadsTexts w v ts) (o : Obj) : ReadsTexts (w.alloc o) v ts := by
  rcases h with h | ⟨b, o', c, rfl, hc, hr⟩
  · exact .inl h
  · exact .inr ⟨b, o', c, rfl, hc, fun j t hj => cell_alloc (hr j t hj)⟩
theorem ReadsTexts.below {w w' : World} {v : Value} {ts : List (List UInt8)} (h : ReadsTexts w v ts) (hb : Below w.heap.size w w') : ReadsTexts w' v ts := by
  rcases h with h | ⟨b, o, c, rfl, hc, hr⟩
  · exact .inl h
  · exact .inr ⟨b, o, c, rfl, hc, fun j t hj => (hb.cell (p := ⟨b, o + j, none⟩) (cell_lt (hr j t hj))).trans (hr j t hj)⟩
theorem texts_yes (ts : List (List UInt8)) : decide (ts = ts) = true := by simp
theorem map_str (ts : List (List UInt8)) : (ts.map str).map (·.data.toList) = ts := by
  rw [List.map_map]
  conv => rhs; rw [← List.map_id ts]
  apply List.map_congr_left
  intro t _
  exact str_data t
theorem JoinLib_any (b o c : Nat) (ts : List (List UInt8)) (sep : ByteArray) (w : World) (hr : ∀ (j : Nat) t, ts[j]? = some t → w.cell? ⟨b, o + j, none⟩ = some (strV t)) (hb : b < w.heap.size) (hc : ts.length ≤ c) (hn : ts.length ≤ 1000000000) (hl : (Lib.join ts sep.data.toList).length ≤ 1000000000) :
    Calls Tryz.prog 132 #[.slice (some ⟨b, o, none⟩) ts.length c, .string sep] w fun e w' => e = .returned (.string (str (Lib.join ts sep.data.toList))) ∧ Below w.heap.size w w' := by
  have h := Tryz.strings_Join b o c (ts.map str) sep w (fun j x hj => by
    rw [List.getElem?_map] at hj
    cases ht : ts[j]? with
    | none => rw [ht] at hj; cases hj
    | some t =>
      rw [ht] at hj
      cases hj
      exact hr j t ht) hb (by rw [List.length_map]; omega) (by rw [List.length_map]; exact hc) (by rw [map_str]; omega)
  rw [List.length_map, map_str] at h
  exact h
set_option maxHeartbeats 400000 in
theorem Join_any (sep : ByteArray) (v : Value) (ts : List (List UInt8)) (w : World) (hv : ReadsTexts w v ts) (hn : ts.length ≤ 1000000000) (hl : (Lib.join ts sep.data.toList).length ≤ 1000000000) :
    Calls Tryz.prog 98 #[.string sep, v] w fun e w' => e = .returned (.string (str (Lib.join ts sep.data.toList))) ∧ Below w.heap.size w w' := by
  rcases hv with ⟨a, c, rfl, rfl⟩ | ⟨b, o, c, rfl, hc, hr⟩
  · go_enter Tryz.func98, Tryz.ntmps98
    go_wp2_with (first
      | (go_at_call 132; refine (Tryz.strings_Join_none a c sep w).mono ?_; rintro e w1 ⟨rfl, hw⟩; rw [hw]; clear hw))
    go_ret
    exact ⟨rfl, Below.refl _ _⟩
  · by_cases hz : ts = []
    · subst hz
      go_enter Tryz.func98, Tryz.ntmps98
      go_wp2_with (first
        | (go_at_call 132; refine (Tryz.strings_Join_none (some ⟨b, o, none⟩) c sep w).mono ?_; rintro e w1 ⟨rfl, hw⟩; rw [hw]; clear hw))
      go_ret
      exact ⟨rfl, Below.refl _ _⟩
    · have hb : b < w.heap.size := by
        cases ts with
        | nil => exact absurd rfl hz
        | cons t r => exact cell_lt (hr 0 t rfl)
      have HR : Hid (∀ (j : Nat) t, ts[j]? = some t → w.cell? ⟨b, o + j, none⟩ = some (strV t)) := hr
      clear hr
      go_enter Tryz.func98, Tryz.ntmps98
      go_wp2_with (first
        | (go_at_call 132; refine (JoinLib_any b o c ts sep w HR.out hb hc hn hl).mono ?_; rintro e w1 ⟨rfl, hb1⟩))
      go_ret
      exact ⟨rfl, hb1⟩
end Go.Proofs.YtnmkhbelmdokmaaGreatDoor
/- Slices that read as texts: their cells. -/
namespace Go.Proofs.YtnmkhbelmdokmaaGreatDoor
open Go.RowKit
theorem owns_base {w : World} {B C : Nat} {e : TypeId} {size n : Nat} {v : Value} {xs : List Value} (h : w.ownsRow C e size v n xs) (hb : B ≤ C) : w.ownsRow B e size v n xs := by
  refine ⟨h.1, ?_⟩
  rcases h.2 with h0 | ⟨g, cap, cur, hv, h1, hc⟩
  · exact .inl h0
  · exact .inr ⟨g, cap, cur, hv, Nat.le_trans hb h1, hc⟩
theorem ReadsTexts.at {w : World} {a : Option Addr} {n c : Nat} {ts : List (List UInt8)} {k : Nat} {t : List UInt8} (h : ReadsTexts w (.slice a n c) ts) (hp : ts[k]? = some t) :
    ∃ b o, a = some ⟨b, o, none⟩ ∧ ts.length ≤ c ∧ b < w.heap.size ∧ w.cell? ⟨b, o + k, none⟩ = some (.string (str t)) := by
  rcases h with ⟨a, c, _, rfl⟩ | ⟨b, o, c, h1, h2, h3⟩
  · simp at hp
  · cases h1
    exact ⟨b, o, rfl, h2, cell_lt (h3 k t hp), h3 k t hp⟩
theorem ReadsTexts.form {w : World} {v : Value} {ts : List (List UInt8)} (h : ReadsTexts w v ts) : ∃ a c, v = .slice a ts.length c := by
  rcases h with ⟨a, c, rfl, rfl⟩ | ⟨b, o, c, rfl, _, _⟩
  · exact ⟨_, _, rfl⟩
  · exact ⟨_, _, rfl⟩
theorem empty_not {t : List UInt8} (h : ¬ t = []) : (str t).toList.isEmpty = false := by
  rw [str_list]
  cases t with
  | nil => exact absurd rfl h
  | cons => rfl
end Go.Proofs.YtnmkhbelmdokmaaGreatDoor
/- The contracts of percent's isPlain, of strings.Builder's WriteByte, and of percent's staying. -/
namespace Go.Proofs.YtnmkhbelmdokmaaGreatDoor
open Go.RowKit
theorem plain_sign {n : Int} (h : n = 45 ∨ n = 46 ∨ n = 95 ∨ n = 126) : Pct.plainN n = true := by
  unfold Pct.plainN
  rw [decide_eq_true h]
  rfl
theorem plain_other {n : Int} (h : ¬ (n = 45 ∨ n = 46 ∨ n = 95 ∨ n = 126)) : Pct.plainN n = (letN n || digN n) := by
  unfold Pct.plainN
  rw [decide_eq_false h]
  rfl
set_option maxHeartbeats 1000000 in
theorem isPlain_n (n : Int) (w : World) :
    Calls Tryz.prog 133 #[.int .u8 n] w fun e w' => e = .returned (.bool (Pct.plainN n)) ∧ w' = w := by
  rcases (show n = 45 ∨ n = 46 ∨ n = 95 ∨ n = 126 ∨ ¬ (n = 45 ∨ n = 46 ∨ n = 95 ∨ n = 126) from by omega) with rfl | rfl | rfl | rfl | h
  case inr.inr.inr.inr =>
    rw [plain_other h]
    have h1 : ¬ n = 45 := by omega
    have h2 : ¬ n = 46 := by omega
    have h3 : ¬ n = 95 := by omega
    have h4 : ¬ n = 126 := by omega
    clear h
    cases hl : letN n
    · go_enter Tryz.func133, Tryz.ntmps133
      go_wp2_with (first
        | (go_at_call 88; refine (IsLetter_n _ _).mono ?_; rintro e w1 ⟨rfl, rfl⟩)
        | (go_at_call 124; refine (IsDigit_n _ _).mono ?_; rintro e w1 ⟨rfl, rfl⟩))
      go_ret
      exact ⟨rfl, rfl⟩
    · go_enter Tryz.func133, Tryz.ntmps133
      go_wp2_with (first
        | (go_at_call 88; refine (IsLetter_n _ _).mono ?_; rintro e w1 ⟨rfl, rfl⟩)
        | (go_at_call 124; refine (IsDigit_n _ _).mono ?_; rintro e w1 ⟨rfl, rfl⟩))
      go_ret
      exact ⟨rfl, rfl⟩
  all_goals
    go_enter Tryz.func133, Tryz.ntmps133
    go_wp2
    go_ret
    exact ⟨rfl, rfl⟩
set_option maxHeartbeats 4000000 in
set_option maxRecDepth 100000 in
theorem WriteByte_k (B b : Nat) (bs : List Value) (c : Int) (w : World) (h : Lib.IsBuilderF 64 5 B b bs w) (hlen : bs.length + 1 ≤ 140737488355328) (hBw : B ≤ w.heap.size) :
    Calls Tryz.prog 55 #[.pointer (some ⟨b, 0, none⟩), .int .u8 c] w fun e w' => e = .returned .nilIface ∧ (Lib.BuilderAtF 64 5 B b (.pointer (some ⟨b, 0, none⟩)) (bs ++ [.int .u8 c]) w' ∧ Below B w w' ∧ Lib.OthersKept 5 (some b) w w') := by
  obtain ⟨i0, hi, hz0, hz1, hz2⟩ := info_parts infoByte
  go_enter Tryz.func55, Tryz.ntmps55
  go_wp2_with (go_at_call 83; refine (copyCheck_k B b bs _ h).mono ?_)
  rintro e w1 ⟨rfl, ⟨hB, v, hbk, hown, hne⟩, hb1, hk1⟩
  have hsz := hb1.size
  have c0 : w1.cell? ⟨b, 0, none⟩ = some (.pointer (some ⟨b, 0, none⟩)) := by rw [Lib.cell_of_heap hbk]; rfl
  have c1 : w1.cell? ⟨b, 1, none⟩ = some v := by rw [Lib.cell_of_heap hbk]; rfl
  have hlt : b < w1.heap.size := (Array.getElem?_eq_some_iff.1 hbk).1
  go_wp2_with (at_builtin; refine wpList_append_ownF _ rfl _ _ 62 rfl B 5 i0 (.int .u8 0) 1 1 Tryz.underlying62 hi hz0 hz1 hz2 rfl (by decide) _ _ _ rfl (hown.alloc _) ⟨w1.heap.size, 0, none⟩ 1 1 [.int .u8 c] rfl rfl (cell_one_new _ _ _) (fun x hx => by simp at hx; subst hx; rfl) (by unfold maxLen; omega) (by omega) (by simp; omega) ?_)
  intro v' w2 hown' hgrow _
  have hb2 : w2.heap[b]? = some (.cells #[.pointer (some ⟨b, 0, none⟩), v] 64 (0, 0)) := by
    rw [hgrow.block b (by simp; omega) (fun e => hne e.symm), Lib.alloc_old w1 _ b hlt]
    exact hbk
  have d0 : w2.cell? ⟨b, 0, none⟩ = some (.pointer (some ⟨b, 0, none⟩)) := by rw [Lib.cell_of_heap hb2]; rfl
  have d1 : w2.cell? ⟨b, 1, none⟩ = some v := by rw [Lib.cell_of_heap hb2]; rfl
  have f1 : w2.frozen? ⟨b, 1, none⟩ = false := Lib.frozen_of_heap hb2 1
  obtain ⟨g, cap, rfl⟩ : ∃ g cap, v' = .slice (some ⟨g, 0, none⟩) (bs.length + 1) cap := by
    rcases hown'.2 with ⟨_, h0⟩ | ⟨g, cap, cur, fz, hv, _⟩
    · omega
    · exact ⟨g, cap, hv⟩
  go_wp2
  go_ret
  refine ⟨rfl, ?_, ?_, ((hk1.alloc _).grown hgrow (Lib.ownsRowF_kind (hown.alloc _))).setCell ⟨b, 1, none⟩ rfl _⟩
  · exact Lib.BuilderAtF.put (T := 64) (e := 5) hB hb2 (bs' := bs ++ [.int .u8 c]) (by simpa using hown') (by decide)
  · exact ((hb1.alloc (by omega) _).grown hgrow (by simp; omega) (fun k hk => (hown.lt k hk).1)).setCell (p := ⟨b, 1, none⟩) hB _
/-- The row of 256 bools. -/
def arr (f : Nat → Bool) : Array Value := (Array.range 256).map fun i => .bool (f i)
theorem arr_size (f : Nat → Bool) : (arr f).size = 256 := by simp [arr]
theorem arr_one (f : Nat → Bool) : (arr f).all (·.oneCell') = true := by
  rw [Array.all_eq_true]
  intro i hi
  simp [arr, Value.oneCell']
theorem arr_at (f : Nat → Bool) (i : Nat) (h : i < 256) : (arr f)[i]? = some (.bool (f i)) := by
  unfold arr
  rw [Array.getElem?_map, Array.getElem?_range, if_pos h]
  rfl
theorem arr_row {w : World} {b : Nat} {t : TypeId} {f : Nat → Bool} (h : w.rowIs b t 256 fun i => .bool (f i)) : w.heap[b]? = some (.cells (arr f) t (0, 0)) := by
  obtain ⟨c, hc, hn, hx⟩ := h
  rw [hc]
  congr 2
  apply Array.ext_getElem?
  intro i
  by_cases hi : i < 256
  · rw [hx i hi, arr_at f i hi]
  · rw [Array.getElem?_eq_none (by omega), Array.getElem?_eq_none (by rw [arr_size]; omega)]
theorem row_arr {w : World} {b : Nat} {t : TypeId} {f : Nat → Bool} (h : w.heap[b]? = some (.cells (arr f) t (0, 0))) : w.rowIs b t 256 fun i => .bool (f i) :=
  ⟨_, h, arr_size f, fun i hi => arr_at f i hi⟩
theorem zeroArr : (Tryz.prog.info? 93).map (fun i => (i.zero, i.size)) = some (some (.agg (Array.replicate 256 (.bool false))), 256) := by kernel_rfl
theorem arr_zero : Array.replicate 256 (Value.bool false) = arr fun _ => false := by
  apply Array.ext_getElem?
  intro i
  by_cases hi : i < 256
  · rw [arr_at _ i hi]; simp [hi]
  · rw [Array.getElem?_eq_none (by simp; omega), Array.getElem?_eq_none (by rw [arr_size]; omega)]
theorem size_arr : (Tryz.prog.info? 93).map (·.size) = some 256 := by kernel_rfl
theorem loadAt_arr {w : World} {b : Nat} {f : Nat → Bool} (h : w.heap[b]? = some (.cells (arr f) 93 (0, 0))) : (Instr.loadAt 93 (.pointer (some ⟨b, 0, none⟩))).run Tryz.prog w = .ok (.agg (arr f)) w := by
  simp only [Instr.loadAt, Instr.sureAddr, Sem.run_bind, Sem.run_pure, Result.andThen]
  exact run_loadVar_row _ _ _ _ _ _ _ h Tryz.underlying93 rfl (by rw [arr_size]; exact size_arr)
theorem storeAt_arr {w : World} {b : Nat} {f g : Nat → Bool} (h : w.heap[b]? = some (.cells (arr f) 93 (0, 0))) : (Instr.storeAt 93 (.pointer (some ⟨b, 0, none⟩)) (.agg (arr g))).run Tryz.prog w = .ok () (w.setRow b (arr g)) := by
  simp only [Instr.storeAt, Instr.sureAddr, Sem.run_bind, Sem.run_pure, Result.andThen]
  exact run_storeVar_row _ _ _ _ _ _ h (by rw [arr_size]; exact size_arr) (by rw [arr_size, arr_size]) (arr_one g)
theorem wpList_load_arr {ops : Array Oper} {rest : List Oper} {o : Oper} {a : Act} {w : World} {Q : Exit → Act → World → Prop} (x : Operand) (ho : o.op = .load 93 x) (hg : o.guard = none) (b : Nat) (f : Nat → Bool) (hx : a.eval x = .pointer (some ⟨b, 0, none⟩)) (h : w.heap[b]? = some (.cells (arr f) 93 (0, 0)))
    (hn : wpList Tryz.prog ops Q rest (a.put o.dst (.agg (arr f))) w) : wpList Tryz.prog ops Q (o :: rest) a w := by
  refine wpList_plain hg fun K hK => ?_
  unfold Oper.wp
  have e : (execOp a.eval o).run Tryz.prog w = .ok (.value (.agg (arr f))) w := by
    unfold execOp
    rw [ho]
    simp only [hx, Sem.run_bind, loadAt_arr h, Result.andThen, Sem.run_pure]
  rw [e, Oper.upon_value]
  exact hK _ _ hn
theorem wpList_store_arr {ops : Array Oper} {rest : List Oper} {o : Oper} {a : Act} {w : World} {Q : Exit → Act → World → Prop} (x y : Operand) (ho : o.op = .store 93 x y) (hg : o.guard = none) (b : Nat) (f g : Nat → Bool) (hx : a.eval x = .pointer (some ⟨b, 0, none⟩)) (hy : a.eval y = .agg (arr g)) (h : w.heap[b]? = some (.cells (arr f) 93 (0, 0)))
    (hn : wpList Tryz.prog ops Q rest (a.put o.dst undef) (w.setRow b (arr g))) : wpList Tryz.prog ops Q (o :: rest) a w := by
  refine wpList_plain hg fun K hK => ?_
  unfold Oper.wp
  have e : (execOp a.eval o).run Tryz.prog w = .ok .skip (w.setRow b (arr g)) := by
    unfold execOp
    rw [ho]
    simp only [hx, hy, Sem.run_bind, storeAt_arr h, Result.andThen, Sem.run_pure]
  rw [e, Oper.upon_skip]
  exact hK _ _ hn
theorem setRow_block {w : World} {b : Nat} {f g : Nat → Bool} {t : TypeId} (h : w.heap[b]? = some (.cells (arr f) t (0, 0))) : (w.setRow b (arr g)).heap[b]? = some (.cells (arr g) t (0, 0)) := by
  simp [World.setRow, Array.getElem?_modify, h]
theorem setRow_other {w : World} {b k : Nat} (h : k ≠ b) (c : Array Value) : (w.setRow b c).heap[k]? = w.heap[k]? := by
  simp only [World.setRow, Array.getElem?_modify]
  rw [if_neg (fun e => h e.symm)]
theorem setRow_size (w : World) (b : Nat) (c : Array Value) : (w.setRow b c).heap.size = w.heap.size := by simp [World.setRow]
theorem below_setRow {B b : Nat} {w w' : World} (h : Below B w w') (hb : B ≤ b) (c : Array Value) : Below B w (w'.setRow b c) :=
  ⟨h.os, h.tape, h.output, by rw [setRow_size]; exact h.size, fun k hk => by rw [setRow_other (by omega)]; exact h.block k hk⟩
theorem size_data0 (b : ByteArray) : b.size = b.data.toList.length := Array.length_toList.symm
theorem results_cell {fn : Func} {p : Tmp} {ty : TypeId} (h : fn.results = #[.cell p ty]) (tmps : Array Value) (P : Program) (w : World) :
    (results fn tmps).run P w = ((asAddr (tmps.getD p undef)).run P w).andThen fun a w1 => (loadVar ty a).run P w1 := by
  simp only [results, h]
  simp [Sem.run_bind, Result.andThen]
theorem stays_more (l : List UInt8) (c : UInt8) (j : Nat) (hj : j < 256) : (if j = c.toNat then Value.bool true else .bool (Pct.stays l (UInt8.ofNat j))) = .bool (Pct.stays (l ++ [c]) (UInt8.ofNat j)) := by
  have hc := c.toNat_lt
  unfold Pct.stays
  by_cases h : j = c.toNat
  · subst h
    rw [if_pos rfl]
    simp
  · rw [if_neg h]
    have : ¬ UInt8.ofNat j = c := by
      rintro rfl
      apply h
      simp
      omega
    simp [this]
theorem byte_in (c : UInt8) : c.toNat < 256 ∧ (c.toNat : Int) < 256 := by have := c.toNat_lt; omega
set_option maxHeartbeats 4000000 in
set_option maxRecDepth 100000 in
theorem staying_any (s : ByteArray) (w : World) (hs : s.size ≤ 1000000000) :
    Calls Tryz.prog 99 #[.string s] w fun e w' => e = .returned (.agg (arr fun i => Pct.stays s.data.toList (UInt8.ofNat i))) ∧ Below w.heap.size w w' := by
  have hz := (zero_of_info zeroArr).1
  rw [arr_zero] at hz
  go_enter Tryz.func99, Tryz.ntmps99
  go_wp2
  go_loopw [6] (fun i wr => ∃ k : Nat, k ≤ 256 ∧ i = .int .i64 k ∧ wr.rowIs w.heap.size 93 256 (fun i => .bool ((fun _ => false) i)) ∧ wr.rowIs (w.heap.size + 1) 93 256 (fun j => .bool ((fun j => decide (j < k) && Pct.plain (UInt8.ofNat j)) j)) ∧ Below w.heap.size w wr) (fun i _ => 256 - (intOf i).toNat)
  case atStart =>
    refine ⟨0, Nat.zero_le _, rfl, (row_arr (heap_alloc_last w _)).alloc _, ?_, ((Below.refl _ w).alloc (Nat.le_refl _) _).alloc (by simp) _⟩
    refine (row_arr (f := fun _ => false) ?_).congr (fun j _ => by simp)
    have := heap_alloc_last (w.alloc (.cells (arr fun _ => false) 93)) (.cells (arr fun _ => false) 93)
    simpa using this
  case round =>
    obtain ⟨k, hk, rfl, hr0, hr1, hbel⟩ := hrel
    by_cases hlt : k < 256
    · have hc := hr1.cell hlt
      have hfz := hr1.frozen k
      have HR0 := show Hid _ from hr0
      have HR1 := show Hid _ from hr1
      clear hr0 hr1
      go_wp2_with (first
        | (go_at_call 133; refine (isPlain_n _ _).mono ?_; rintro e w1 ⟨rfl, rfl⟩))
      go_roundw
      case rel =>
        refine ⟨k + 1, by omega, by go_num, World.rowIs.setOther HR0.out (by simp) _, (World.rowIs.set HR1.out k _).congr (fun j hj => ?_), hbel.setCell (by simp) _⟩
        by_cases hjk : j = k
        · subst hjk
          rw [if_pos rfl]
          simp only [Nat.lt_succ_self, decide_true, Bool.true_and]
          congr 1
          unfold Pct.plain
          congr 1
          simp
          omega
        · rw [if_neg hjk]
          have e : decide (j < k) = decide (j < k + 1) := by
            rw [decide_eq_decide]
            omega
          rw [e]
      case measure => simp [intOf]; omega
    · have HR0 := show Hid _ from hr0
      have HR1 : Hid (wr.rowIs (w.heap.size + 1) 93 256 fun j => .bool ((fun j => Pct.stays (s.data.toList.take 0) (UInt8.ofNat j)) j)) := hr1.congr (fun j hj => by
        simp only [List.take_zero, Pct.stays]
        rw [decide_eq_true (by omega)]
        simp)
      clear hr0 hr1
      go_wp2
      go_loopw [17] (fun i wr => ∃ k : Nat, k ≤ s.size ∧ i = .int .i64 k ∧ Hid (wr.rowIs w.heap.size 93 256 (fun i => .bool ((fun _ => false) i))) ∧ Hid (wr.rowIs (w.heap.size + 1) 93 256 (fun j => .bool ((fun j => Pct.stays (s.data.toList.take k) (UInt8.ofNat j)) j))) ∧ Below w.heap.size w wr) (fun i _ => s.size - (intOf i).toNat)
      case atStart => exact ⟨0, Nat.zero_le _, rfl, HR0, HR1, hbel⟩
      case round =>
        clear HR0 HR1 hbel
        obtain ⟨m, hm, rfl, HR0, HR1, hbel⟩ := hrel
        by_cases hlt : m < s.size
        · have hb := byte_in s[m]
          have hc := World.rowIs.cell HR1.out hb.1
          have hfz := World.rowIs.frozen HR1.out s[m].toNat
          have hb2 := hb.2
          go_wp2
          go_roundw
          case rel =>
            refine ⟨m + 1, by omega, by go_num, World.rowIs.setOther HR0.out (by simp) _, (World.rowIs.set HR1.out s[m].toNat _).congr (fun j hj => ?_), hbel.setCell (by simp) _⟩
            rw [Asc.take_snoc s.data.toList m hlt]
            exact stays_more _ _ _ hj
          case measure => simp [intOf]; omega
        · have HN : Hid (wr.heap[w.heap.size + 1]? = some (.cells (arr fun j => Pct.stays s.data.toList (UInt8.ofNat j)) 93 (0, 0))) := by
            have := arr_row HR1.out
            rw [List.take_of_length_le (by rw [← size_data0]; omega)] at this
            exact this
          go_wp2_with (first
            | (refine wpList_load_arr _ rfl rfl _ _ rfl HN.out ?_)
            | (refine wpList_store_arr _ _ rfl rfl _ _ _ rfl rfl (arr_row HR0.out) ?_))
          refine bodyPost_ret (v := .agg (arr fun i => Pct.stays s.data.toList (UInt8.ofNat i))) ?_ rfl ⟨rfl, below_setRow hbel (Nat.le_refl _) _⟩
          have hld := run_loadVar_row (P := Tryz.prog) _ _ _ _ _ _ _ (setRow_block (arr_row HR0.out)) Tryz.underlying93 rfl (by rw [arr_size (fun i => Pct.stays s.data.toList (UInt8.ofNat i))]; exact size_arr)
          rw [results_cell rfl]
          simp [asAddr, Result.andThen, hld]
end Go.Proofs.YtnmkhbelmdokmaaGreatDoor
/- The contract of percent.Mark. -/
namespace Go.Proofs.YtnmkhbelmdokmaaGreatDoor
open Go.RowKit
theorem stays_cell {w : World} {b : Nat} {t : TypeId} (l : List UInt8) (c : UInt8) (h : w.heap[b]? = some (.cells (arr fun i => Pct.stays l (UInt8.ofNat i)) t (0, 0))) : w.cell? ⟨b, c.toNat, none⟩ = some (.bool (Pct.stays l c)) := by
  have := (row_arr h).cell (byte_in c).1
  rw [this, UInt8.ofNat_toNat]
def lit16 : ByteArray := ⟨#[48, 49, 50, 51, 52, 53, 54, 55, 56, 57, 65, 66, 67, 68, 69, 70]⟩
theorem lit_hex : ∀ k : Fin lit16.size, lit16[k.val].toNat = (Pct.hexU k.val).toNat := by decide
theorem lit_at (k : Nat) (h : k < lit16.size) : lit16[k].toNat = (Pct.hexU k).toNat := lit_hex ⟨k, h⟩
theorem mk_cells (c : UInt8) (h1 : c.toNat / 16 < lit16.size) (h2 : c.toNat % 16 < lit16.size) : Lib.byteCells (Pct.mk c) = [.int .u8 37, .int .u8 lit16[c.toNat / 16].toNat, .int .u8 lit16[c.toNat % 16].toNat] := by
  rw [lit_at _ h1, lit_at _ h2]
  rfl
set_option maxHeartbeats 1000000 in
set_option maxRecDepth 100000 in
theorem Mark_any (s free : ByteArray) (w : World) (hs : s.size ≤ 1000000000) (hf : free.size ≤ 1000000000) :
    Calls Tryz.prog 67 #[.string s, .string free] w fun e w' => e = .returned (.string (str (Pct.mark free.data.toList s.data.toList))) ∧ Below w.heap.size w w' := by
  have hz := (zero_of_info zeroArr).1
  rw [arr_zero] at hz
  go_enter Tryz.func67, Tryz.ntmps67
  go_upto_region 2 with (first
    | (go_at_call 99; refine (staying_any _ _ hf).mono ?_; rintro e w1 ⟨rfl, hb1⟩)
    | (refine wpList_store_arr _ _ rfl rfl _ _ _ rfl rfl (heap_alloc_last _ _) ?_))
  have hA := setRow_block (g := fun i => Pct.stays free.data.toList (UInt8.ofNat i)) (heap_alloc_last w1 (.cells (arr fun _ => false) 93))
  have hS := setRow_size (w1.alloc (.cells (arr fun _ => false) 93)) w1.heap.size (arr fun i => Pct.stays free.data.toList (UInt8.ofNat i))
  have hW := below_setRow (hb1.alloc (o := .cells (arr fun _ => false) 93) hb1.size) hb1.size (arr fun i => Pct.stays free.data.toList (UInt8.ofNat i))
  have hg : ∃ W, (w1.alloc (.cells (arr fun _ => false) 93)).setRow w1.heap.size (arr fun i => Pct.stays free.data.toList (UInt8.ofNat i)) = W := ⟨_, rfl⟩
  obtain ⟨W, hg⟩ := hg
  rw [hg] at hA hS hW ⊢
  clear hg
  have HS : Hid (W.heap.size = w1.heap.size + 1) := by show _ = _; rw [hS]; simp
  clear hS
  have hn1 := hb1.size
  have HA := show Hid _ from hA
  clear hA
  go_wp2
  go_loopw [13] (fun i wr => ∃ k : Nat, k ≤ s.size ∧ i = .int .i64 k ∧ Lib.IsBuilderF 64 5 W.heap.size W.heap.size (Lib.byteCells (Pct.mark free.data.toList (s.data.toList.take k))) wr ∧ Below W.heap.size W wr) (fun i _ => s.size - (intOf i).toNat)
  case atStart => exact ⟨0, Nat.zero_le _, rfl, Lib.IsBuilderF.of (Lib.fresh_isBuilder 64 5 W), (Below.refl _ W).alloc (Nat.le_refl _) _⟩
  case round =>
    obtain ⟨k, hk, rfl, hI, hbw⟩ := hrel
    by_cases hlt : k < s.size
    · have hb := byte_in s[k]
      have hc : wr.cell? ⟨w1.heap.size, s[k].toNat, none⟩ = some (.bool (Pct.stays free.data.toList s[k])) := stays_cell free.data.toList s[k] ((hbw.block w1.heap.size (by rw [HS.out]; omega)).trans HA.out)
      have hml := Pct.mark_len free.data.toList (s.data.toList.take k)
      rw [List.length_take] at hml
      have hb2 := hb.2
      have hwz := hbw.size
      cases hst : Pct.stays free.data.toList s[k]
      · rw [hst] at hc
        go_wp2_with fail
        go_at_call 55
        refine (WriteByte_k W.heap.size W.heap.size _ _ _ hI (by rw [Lib.byteCells_length]; omega) hwz).mono ?_
        rintro e W1 ⟨rfl, h1, b1, k1⟩
        have hwz1 := b1.size
        go_wp2_with fail
        go_at_call 55
        refine (WriteByte_k W.heap.size W.heap.size _ _ _ (.inr h1) (by rw [List.length_append, Lib.byteCells_length, List.length_singleton]; omega) (by omega)).mono ?_
        rintro e W2 ⟨rfl, h2, b2, k2⟩
        have hwz2 := b2.size
        go_wp2_with fail
        go_at_call 55
        refine (WriteByte_k W.heap.size W.heap.size _ _ _ (.inr h2) (by rw [List.length_append, List.length_append, Lib.byteCells_length, List.length_singleton, List.length_singleton]; omega) (by omega)).mono ?_
        rintro e W3 ⟨rfl, h3, b3, k3⟩
        go_wp2_with fail
        have HN : Pct.mark free.data.toList (s.data.toList.take (k + 1)) = Pct.mark free.data.toList (s.data.toList.take k) ++ Pct.mk s[k] := by
          rw [Pct.mark_next _ _ k hlt]
          exact congrArg _ (Pct.one_no hst)
        go_roundw
        case rel => exact ⟨k + 1, by omega, by go_num, by rw [List.append_assoc, List.append_assoc] at h3; rw [HN, Lib.byteCells_append, mk_cells _ (by show s[k].toNat / 16 < 16; omega) (by show s[k].toNat % 16 < 16; omega)]; exact .inr h3, hbw.trans (b1.trans (b2.trans b3))⟩
        case measure => simp [intOf]; omega
      · rw [hst] at hc
        have HN : Hid (Pct.mark free.data.toList (s.data.toList.take (k + 1)) = Pct.mark free.data.toList (s.data.toList.take k) ++ [s[k]]) := by
          show _ = _
          rw [Pct.mark_next _ _ k hlt]
          exact congrArg _ (Pct.one_yes hst)
        go_wp2_with (go_at_call 55; refine (WriteByte_k W.heap.size W.heap.size _ _ _ hI (by rw [Lib.byteCells_length]; omega) hwz).mono ?_; rintro e W1 ⟨rfl, h1, b1, k1⟩)
        go_roundw
        case rel => exact ⟨k + 1, by omega, by go_num, by rw [HN.out, Lib.byteCells_append]; exact .inr h1, hbw.trans b1⟩
        case measure => simp [intOf]; omega
    · have HN : Hid (Pct.mark free.data.toList (s.data.toList.take k) = Pct.mark free.data.toList s.data.toList) := by
        show _ = _
        rw [List.take_of_length_le (by rw [← size_data0]; omega)]
      have hwz := hbw.size
      go_wp2_with (go_at_call 56; refine (Tryz.Builder_String_any_k W.heap.size W.heap.size _ _ hI hwz).mono ?_; rintro e W1 ⟨rfl, _, b1, _⟩)
      go_ret
      exact ⟨by rw [← HN.out]; rfl, hW.trans ((hbw.trans b1).mono (by rw [HS.out]; omega))⟩
end Go.Proofs.YtnmkhbelmdokmaaGreatDoor
/- The contracts of percent's first and Unmark. -/
namespace Go.Proofs.YtnmkhbelmdokmaaGreatDoor
open Go.RowKit
theorem getD_at (s : ByteArray) (k : Nat) (h : k < s.size) : s.data.toList.getD k 0 = s[k] := by
  have h2 : k < s.data.toList.length := by rw [← size_data0]; exact h
  rw [List.getD_eq_getElem?_getD, List.getElem?_eq_getElem h2]
  rfl
theorem cut_two (s : ByteArray) (h : 3 ≤ s.size) : (s.extract 1 3).data.toList = [s[1], s[2]] := by
  have h2 : 3 ≤ s.data.toList.length := by rw [← size_data0]; exact h
  rw [data_cut]
  have e1 := getD_at s 1 (by omega)
  have e2 := getD_at s 2 (by omega)
  rw [← e1, ← e2]
  match hl : s.data.toList, h2 with
  | a :: b :: c :: r, _ => rfl
theorem hex_two_ok (a b : UInt8) (ha : Asc.hexOk (Asc.bt a) = true) (hb : Asc.hexOk (Asc.bt b) = true) : Asc.hexNum [a, b] = Asc.hexV (Asc.bt a) * 16 + Asc.hexV (Asc.bt b) ∧ Asc.hexErr [a, b] = 0 := by
  have h1 := Asc.hexV_bd (Asc.bt a)
  refine Asc.hex_ok _ _ ⟨by simp [Asc.allHex, ha, hb], by simp⟩ ?_
  simp only [Asc.hexFold]
  rw [if_neg (by omega), if_neg (by omega)]
  simp
theorem hex_two_no (a b : UInt8) (h : ¬ (Asc.hexOk (Asc.bt a) = true ∧ Asc.hexOk (Asc.bt b) = true)) : Asc.hexErr [a, b] = 3 := by
  refine (Asc.hex_form _ ?_).2
  rintro ⟨h1, _⟩
  apply h
  simpa [Asc.allHex] using h1
theorem first_no (s : ByteArray) (h0 : 0 < s.size) (h : ¬ (s[0] = 37 ∧ 3 ≤ s.size)) : Pct.first s.data.toList = (s[0], 1) := by
  unfold Pct.first
  rw [getD_at s 0 h0, ← size_data0, if_neg (by rintro ⟨a, b, _⟩; exact h ⟨a, b⟩)]
theorem first_bad (s : ByteArray) (h : 3 ≤ s.size) (hx : ¬ (Asc.hexOk (Asc.bt s[1]) = true ∧ Asc.hexOk (Asc.bt s[2]) = true)) : Pct.first s.data.toList = (s[0], 1) := by
  unfold Pct.first
  rw [getD_at s 0 (by omega), getD_at s 1 (by omega), getD_at s 2 (by omega), if_neg (by rintro ⟨_, _, a, b⟩; exact hx ⟨a, b⟩)]
theorem first_mark (s : ByteArray) (h : 3 ≤ s.size) (h0 : s[0] = 37) (h1 : Asc.hexOk (Asc.bt s[1]) = true) (h2 : Asc.hexOk (Asc.bt s[2]) = true) : Pct.first s.data.toList = (UInt8.ofNat (Asc.hexV (Asc.bt s[1]) * 16 + Asc.hexV (Asc.bt s[2])).toNat, 3) := by
  unfold Pct.first
  rw [getD_at s 0 (by omega), getD_at s 1 (by omega), getD_at s 2 (by omega), if_pos ⟨h0, by rw [← size_data0]; exact h, h1, h2⟩]
  rfl
set_option maxHeartbeats 1000000 in
theorem first_any (s : ByteArray) (w : World) (h0 : 0 < s.size) (hs : s.size ≤ 1000000000) :
    Calls Tryz.prog 126 #[.string s] w fun e w' => e = .returned (.tuple #[.int .u8 (Pct.first s.data.toList).1.toNat, .int .i64 (Pct.first s.data.toList).2]) ∧ w' = w := by
  by_cases hp : s[0] = 37
  · have hq : (((s[0].toNat : Nat) : Int) != 37) = false := by rw [hp]; rfl
    by_cases h3 : 3 ≤ s.size
    · have hx3 : (s.extract 1 3).size ≤ 1000000000 := by rw [size_data0, cut_two s h3]; simp
      by_cases hx : Asc.hexOk (Asc.bt s[1]) = true ∧ Asc.hexOk (Asc.bt s[2]) = true
      · have HF := first_mark s h3 hp hx.1 hx.2
        have HX := hex_two_ok s[1] s[2] hx.1 hx.2
        rw [← cut_two s h3] at HX
        obtain ⟨HX1, hx2⟩ := HX
        have HN : Hid (Asc.hexNum (s.extract 1 3).data.toList = Asc.hexV (Asc.bt s[1]) * 16 + Asc.hexV (Asc.bt s[2])) := HX1
        have HF : Hid _ := HF
        have b1 := Asc.hexV_bd (Asc.bt s[1])
        have b2 := Asc.hexV_bd (Asc.bt s[2])
        clear hp hx HX1
        go_enter Tryz.func126, Tryz.ntmps126
        go_wp2_with (first
          | (go_at_call 155; refine (Hex_any _ _ hx3).mono ?_; rintro e w1 ⟨rfl, rfl⟩; rw [HN.out, hx2]))
        go_ret2
        refine ⟨ret_pair ?_ ?_, rfl⟩
        · rw [HF.out]
          show Value.int .u8 (Asc.hexV (Asc.bt s[1]) * 16 + Asc.hexV (Asc.bt s[2])) = .int .u8 _
          congr 1
          simp
          omega
        · rw [HF.out]; rfl
      · have HF : Hid _ := first_bad s h3 hx
        have hx2 := hex_two_no s[1] s[2] hx
        rw [← cut_two s h3] at hx2
        clear hp hx
        go_enter Tryz.func126, Tryz.ntmps126
        go_wp2_with (first
          | (go_at_call 155; refine (Hex_any _ _ hx3).mono ?_; rintro e w1 ⟨rfl, rfl⟩; rw [hx2]))
        go_ret2
        exact ⟨ret_pair (by rw [HF.out]; rfl) (by rw [HF.out]; rfl), rfl⟩
    · have HF : Hid _ := first_no s h0 (fun h => h3 h.2)
      clear hp
      go_enter Tryz.func126, Tryz.ntmps126
      go_wp2
      go_ret2
      exact ⟨ret_pair (by rw [HF.out]; rfl) (by rw [HF.out]; rfl), rfl⟩
  · have hq : (((s[0].toNat : Nat) : Int) != 37) = true := by
      rw [bne_iff_ne]
      intro e
      exact hp (UInt8.toNat_inj.1 (by have : (37 : UInt8).toNat = 37 := rfl; omega))
    have HF : Hid _ := first_no s h0 (fun h => hp h.1)
    clear hp
    go_enter Tryz.func126, Tryz.ntmps126
    go_wp2
    go_ret2
    exact ⟨ret_pair (by rw [HF.out]; rfl) (by rw [HF.out]; rfl), rfl⟩
theorem rest_first (s : ByteArray) (k : Nat) : (s.extract k s.size).data.toList = s.data.toList.drop k := by
  rw [data_cut, List.take_of_length_le (by rw [← size_data0]; omega)]
set_option maxHeartbeats 1000000 in
set_option maxRecDepth 100000 in
theorem Unmark_any (s : ByteArray) (w : World) (hs : s.size ≤ 1000000000) :
    Calls Tryz.prog 91 #[.string s] w fun e w' => e = .returned (.string (str (Pct.unmark s.data.toList))) ∧ Below w.heap.size w w' := by
  go_enter Tryz.func91, Tryz.ntmps91
  go_wp2
  go_loopw [4] (fun i wr => ∃ (k : Nat) (acc : List UInt8), k ≤ s.size ∧ i = .int .i64 k ∧ Lib.IsBuilderF 64 5 w.heap.size w.heap.size (Lib.byteCells acc) wr ∧ acc.length ≤ k ∧ Hid (acc ++ Pct.unmark (s.data.toList.drop k) = Pct.unmark s.data.toList) ∧ Below w.heap.size w wr) (fun i _ => s.size - (intOf i).toNat)
  case atStart => exact ⟨0, [], Nat.zero_le _, rfl, Lib.IsBuilderF.of (Lib.fresh_isBuilder 64 5 w), Nat.le_refl _, rfl, (Below.refl _ w).alloc (Nat.le_refl _) _⟩
  case round =>
    obtain ⟨k, acc, hk, rfl, hI, hal, HE, hbw⟩ := hrel
    by_cases hlt : k < s.size
    · have hrz : (s.extract k s.size).size = s.size - k := by rw [size_data0, rest_first s k, List.length_drop, ← size_data0]
      have hfs := Pct.first_size (s.data.toList.drop k)
      rw [List.length_drop, ← size_data0] at hfs
      have HR : Hid ((s.extract k s.size).data.toList = s.data.toList.drop k) := rest_first s k
      have HN : Hid (acc ++ [(Pct.first (s.data.toList.drop k)).1] ++ Pct.unmark (s.data.toList.drop (k + (Pct.first (s.data.toList.drop k)).2)) = Pct.unmark s.data.toList) := by
        show _ = _
        rw [← HE.out, Pct.unmark_at _ k (by rw [← size_data0]; exact hlt)]
        simp
      have hwz := hbw.size
      go_wp2_with (first
        | (go_at_call 126; refine (first_any _ _ (by rw [hrz]; omega) (by rw [hrz]; omega)).mono ?_; rintro e w1 ⟨rfl, rfl⟩; rw [HR.out])
        | (go_at_call 55; refine (WriteByte_k w.heap.size w.heap.size _ _ _ hI (by rw [Lib.byteCells_length]; omega) hwz).mono ?_; rintro e W1 ⟨rfl, h1, b1, k1⟩))
      go_roundw
      case rel => exact ⟨k + (Pct.first (s.data.toList.drop k)).2, acc ++ [(Pct.first (s.data.toList.drop k)).1], by omega, by go_num, by rw [Lib.byteCells_append]; exact .inr h1, by rw [List.length_append, List.length_singleton]; omega, HN, hbw.trans b1⟩
      case measure => simp [intOf]; omega
    · have HN : Hid (acc = Pct.unmark s.data.toList) := by
        have := HE.out
        rw [List.drop_of_length_le (by rw [← size_data0]; omega), Pct.unmark_nil, List.append_nil] at this
        exact this
      have hwz := hbw.size
      go_wp2_with (go_at_call 56; refine (Tryz.Builder_String_any_k w.heap.size w.heap.size _ _ hI hwz).mono ?_; rintro e W1 ⟨rfl, _, b1, _⟩)
      go_ret
      exact ⟨by rw [← HN.out]; rfl, hbw.trans b1⟩
end Go.Proofs.YtnmkhbelmdokmaaGreatDoor
/- Slices of pairs: how they read, those of a call's own; the laws' theirs, ours and same. -/
namespace Go.Proofs.YtnmkhbelmdokmaaGreatDoor
open Go.RowKit
def pairCells (ps : List Pct.Pr) : List Value := ps.flatMap fun p => [strV p.1, strV p.2]
theorem pairCells_snoc (ps : List Pct.Pr) (p : Pct.Pr) : pairCells (ps ++ [p]) = pairCells ps ++ [strV p.1, strV p.2] := by simp [pairCells]
theorem pairCells_length : ∀ ps : List Pct.Pr, (pairCells ps).length = ps.length * 2
  | [] => rfl
  | p :: ps => by
    have := pairCells_length ps
    simp only [pairCells, List.flatMap_cons, List.length_append, List.length_cons, List.length_nil] at this ⊢
    omega
theorem pairCells_at : ∀ (ps : List Pct.Pr) (j : Nat) (p : Pct.Pr), ps[j]? = some p → (pairCells ps)[j * 2]? = some (strV p.1) ∧ (pairCells ps)[j * 2 + 1]? = some (strV p.2)
  | [], j, p, h => by simp at h
  | q :: ps, 0, p, h => by
    simp at h
    subst h
    exact ⟨rfl, rfl⟩
  | q :: ps, j + 1, p, h => by
    have := pairCells_at ps j p (by simpa using h)
    have e : pairCells (q :: ps) = strV q.1 :: strV q.2 :: pairCells ps := rfl
    rw [e, show (j + 1) * 2 = j * 2 + 1 + 1 from by omega]
    simpa using this
/-- The slice owns these pairs, in memory from 'B' on; 't' is the pair's own type. -/
def OwnsPairs (t : TypeId) (w : World) (B : Nat) (v : Value) (ps : List Pct.Pr) : Prop := w.ownsRow B t 2 v ps.length (pairCells ps)
theorem OwnsPairs.nil (t : TypeId) (w : World) (B : Nat) : OwnsPairs t w B (.slice none 0 0) [] := World.ownsRow_nil _ _ _ _
theorem OwnsPairs.of {t : TypeId} {w : World} {B : Nat} {v x y : Value} {ps qs : List Pct.Pr} {p : Pct.Pr} (h : qs = ps ++ [p]) (hx : strV p.1 = x) (hy : strV p.2 = y) (ho : w.ownsRow B t 2 v (ps.length + 1) (pairCells ps ++ [x, y])) : OwnsPairs t w B v qs := by
  subst h; subst hx; subst hy
  unfold OwnsPairs
  rw [pairCells_snoc, List.length_append]
  exact ho
/-- The slice reads as these pairs. -/
def ReadsPairs (w : World) (v : Value) (ps : List Pct.Pr) : Prop :=
  (∃ a c, v = .slice a 0 c ∧ ps = []) ∨ ∃ b o c, v = .slice (some ⟨b, o, none⟩) ps.length c ∧ ps.length ≤ c ∧ ∀ (j : Nat) p, ps[j]? = some p → w.cell? ⟨b, o + j * 2, none⟩ = some (strV p.1) ∧ w.cell? ⟨b, o + j * 2 + 1, none⟩ = some (strV p.2)
theorem ReadsPairs.form {w : World} {v : Value} {ps : List Pct.Pr} (h : ReadsPairs w v ps) : ∃ a c, v = .slice a ps.length c := by
  rcases h with ⟨a, c, rfl, rfl⟩ | ⟨b, o, c, rfl, _, _⟩
  · exact ⟨_, _, rfl⟩
  · exact ⟨_, _, rfl⟩
theorem ReadsPairs.at {w : World} {a : Option Addr} {n c : Nat} {ps : List Pct.Pr} {k : Nat} {p : Pct.Pr} (h : ReadsPairs w (.slice a n c) ps) (hp : ps[k]? = some p) :
    ∃ b o, a = some ⟨b, o, none⟩ ∧ ps.length ≤ c ∧ b < w.heap.size ∧ w.cell? ⟨b, o + k * 2, none⟩ = some (.string (str p.1)) ∧ w.cell? ⟨b, o + k * 2 + 1, none⟩ = some (.string (str p.2)) := by
  rcases h with ⟨a, c, _, rfl⟩ | ⟨b, o, c, h1, h2, h3⟩
  · simp at hp
  · cases h1
    exact ⟨b, o, rfl, h2, cell_lt (h3 k p hp).1, h3 k p hp⟩
theorem ReadsPairs.below {w w' : World} {v : Value} {ps : List Pct.Pr} (h : ReadsPairs w v ps) (hb : Below w.heap.size w w') : ReadsPairs w' v ps := by
  rcases h with h | ⟨b, o, c, rfl, hc, hr⟩
  · exact .inl h
  · refine .inr ⟨b, o, c, rfl, hc, fun j p hj => ?_⟩
    have := hr j p hj
    exact ⟨(hb.cell (p := ⟨b, o + j * 2, none⟩) (cell_lt this.1)).trans this.1, (hb.cell (p := ⟨b, o + j * 2 + 1, none⟩) (cell_lt this.2)).trans this.2⟩
theorem OwnsPairs.reads {t : TypeId} {w : World} {B : Nat} {v : Value} {ps : List Pct.Pr} (h : OwnsPairs t w B v ps) : ReadsPairs w v ps := by
  rcases h.2 with ⟨rfl, h0⟩ | ⟨g, cap, cur, rfl, _, hg, hc, _, hcs, ht⟩
  · exact .inl ⟨_, _, rfl, List.eq_nil_of_length_eq_zero h0⟩
  · refine .inr ⟨g, 0, cap, rfl, hc, fun j p hj => ?_⟩
    have hlt : j < ps.length := (List.getElem?_eq_some_iff.1 hj).1
    have e := pairCells_at ps j p hj
    have e1 := World.ownsRow.cellAt (w := w) (base := B) (e := t) (size := 2) (g := g) (cap := cap) (n := ps.length) (xs := pairCells ps) h (j * 2) (by omega)
    have e2 := World.ownsRow.cellAt (w := w) (base := B) (e := t) (size := 2) (g := g) (cap := cap) (n := ps.length) (xs := pairCells ps) h (j * 2 + 1) (by omega)
    rw [Nat.zero_add, e1, e2]
    exact e
end Go.Proofs.YtnmkhbelmdokmaaGreatDoor
/- The contracts of percent's write, read and Form. -/
namespace Go.Proofs.YtnmkhbelmdokmaaGreatDoor
open Go.RowKit
/-- What the walks are told of internal/bytealg.MaxLen: it is a whole number. -/
def MaxL (w : World) : Prop := ∃ m : Int, w.cell? ⟨0, 0, none⟩ = some (.int .i64 m)
theorem MaxL.below {w w' : World} (h : MaxL w) (hb : Below w.heap.size w w') : MaxL w' := by
  obtain ⟨m, hm⟩ := h
  exact ⟨m, (hb.cell (p := ⟨0, 0, none⟩) (cell_lt hm)).trans hm⟩
theorem ReplaceAll_any (a b : UInt8) (hab : a ≠ b) (l : List UInt8) (w : World) (hM : MaxL w) (hz : l.length ≤ 4000000000) :
    Calls Tryz.prog 95 #[.string (str l), .string ⟨#[a]⟩, .string ⟨#[b]⟩] w fun e w' => e = .returned (.string (str (Pct.turned l a b))) ∧ Below w.heap.size w w' := by
  obtain ⟨m, hm⟩ := hM
  have hc : Lib.countB (str l) ⟨#[a]⟩ ≤ l.length := by
    show Lib.count (str l).data.toList [a] ≤ _
    rw [str_data, Lib.count_one]
    exact List.count_le_length
  have h2 : (⟨#[b]⟩ : ByteArray).size = 1 := rfl
  have := Tryz.strings_ReplaceAll (str l) ⟨#[a]⟩ ⟨#[b]⟩ m w (by rw [str_size]; omega) hm (Nat.le_refl _) (by rw [str_size, h2]; omega)
  refine this.mono ?_
  rintro e w' ⟨rfl, hb⟩
  refine ⟨?_, hb⟩
  rw [str_data]
  show Ending.returned (.string (str (Lib.replaceAll l [a] [b]))) = _
  rw [Pct.replaceAll_map a b hab]
theorem Mark_blank (s : ByteArray) (w : World) (hs : s.size ≤ 1000000000) :
    Calls Tryz.prog 67 #[.string s, .string ⟨#[32]⟩] w fun e w' => e = .returned (.string (str (Pct.mark [32] s.data.toList))) ∧ Below w.heap.size w w' := Mark_any s ⟨#[32]⟩ w hs (by decide)
theorem ownsRow_below {w w' : World} {B : Nat} {e : TypeId} {size n : Nat} {v : Value} {xs : List Value} (h : w.ownsRow B e size v n xs) (hb : Below w.heap.size w w') : w'.ownsRow B e size v n xs := by
  refine ⟨h.1, ?_⟩
  rcases h.2 with h0 | ⟨g, cap, cur, hv, h1, hg, hc⟩
  · exact .inl h0
  · exact .inr ⟨g, cap, cur, hv, h1, (hb.block g (Array.getElem?_eq_some_iff.1 hg).1).trans hg, hc⟩
/-- The parts, as far as they are made. -/
def partTo (ps : List Pct.Pr) (k : Nat) : List (List UInt8) := (ps.take k).map Pct.text ++ List.replicate (ps.length - k) []
theorem partTo_len (ps : List Pct.Pr) (k : Nat) (h : k ≤ ps.length) : (partTo ps k).length = ps.length := by
  unfold partTo
  rw [List.length_append, List.length_map, List.length_take, List.length_replicate]
  omega
theorem partTo_all (ps : List Pct.Pr) (k : Nat) (h : ¬ k < ps.length) : partTo ps k = ps.map Pct.text := by
  unfold partTo
  rw [List.take_of_length_le (by omega), show ps.length - k = 0 from by omega]
  simp
theorem partTo_next (ps : List Pct.Pr) (k : Nat) (p : Pct.Pr) (h : ps[k]? = some p) : ((partTo ps k).map strV).set k (.string (str (Pct.text p))) = (partTo ps (k + 1)).map strV := by
  have hlt : k < ps.length := (List.getElem?_eq_some_iff.1 h).1
  unfold partTo
  rw [show ps.length - k = (ps.length - (k + 1)) + 1 from by omega, List.replicate_succ, List.take_add_one, h, List.map_append, List.set_append_right _ _ (by simp; omega)]
  simp [Nat.min_eq_left (Nat.le_of_lt hlt), strV, str]
theorem partTo_cell (ps : List Pct.Pr) (k : Nat) (h : k < ps.length) : ((partTo ps k).map strV)[k]? = some (.string (str [])) := by
  unfold partTo
  rw [show ps.length - k = (ps.length - (k + 1)) + 1 from by omega, List.replicate_succ, List.map_append, List.getElem?_append_right (by simp; omega)]
  simp [Nat.min_eq_left (Nat.le_of_lt h), strV, str]
theorem made_texts (n : Nat) : (madeCells (Value.string ByteArray.empty).cells (n * 1)).toList = (List.replicate n []).map strV := by
  unfold madeCells
  rw [Nat.mul_one, List.map_replicate]
  apply List.ext_getElem
  · simp
  · intro i h1 h2
    simp [Value.cells, Nat.mod_one, strV]
    rfl
theorem str_add (a b : List UInt8) : str a ++ str b = str (a ++ b) := str_eq (by rw [ByteArray.data_append, Array.toList_append, str_data, str_data])
end Go.Proofs.YtnmkhbelmdokmaaGreatDoor
