/- Texts laid as one. -/
import Derived.Test.YtpnmiknikkhliaaDoorRows
import Derived.WalkKit
import Derived.ProofKit
import Derived.OpenShut
import Derived.WalkSpells
import Derived.WalkSmall
import Derived.Below
import Derived.BigQuiet
import Derived.BigCall
import Derived.Deep.QuietTactic
import Derived.Laws.IdiomStrings
import Derived.Laws.OwnMore
import Derived.Lib.OthersKept
import Derived.Test.YtpnmiknikkhliaaDoorKMath
import Derived.Maps.AppendAt
import Derived.Laws.BitsAllLaws
import Derived.OwnWalk
import Derived.Test.YtpnmiknikkhliaaDoorKShelf
import Derived.Laws.RangeAny
import Derived.Shelf.Strings.BuilderRune
/- What the contracts of every seat share: texts as lists of bytes, rows of bytes of the call's own, worlds that only grow. -/
namespace Go.Proofs.YtpnmiknikkhliaaDoor
open Go.RowKit
theorem ret_bool {a b : Bool} (h : a = b) : Ending.returned (.bool a) = .returned (.bool b) := by rw [h]
theorem ret_int {k : IntKind} {a b : Int} (h : a = b) : Ending.returned (.int k a) = .returned (.int k b) := by rw [h]
theorem bel {w W W' : World} (h : Below w.heap.size w W) (h2 : Below W.heap.size W W') : Below w.heap.size w W' := h.trans (h2.mono h.size)
/-- The text of these bytes. -/
def str (l : List UInt8) : ByteArray := ⟨l.toArray⟩
theorem str_size (l : List UInt8) : (str l).size = l.length := by simp [str, ByteArray.size]
theorem str_data (l : List UInt8) : (str l).data.toList = l := by simp [str]
theorem str_list (a : List UInt8) : (str a).toList = a := by rw [ByteArray.toList_eq, str_data]
theorem str_eq {b : ByteArray} {l : List UInt8} (h : b.data.toList = l) : b = str l := by
  subst h
  cases b
  simp [str]
theorem str_self (s : ByteArray) : str s.data.toList = s := (str_eq rfl).symm
theorem ret_text {b : ByteArray} {l : List UInt8} (h : b.data.toList = l) : Ending.returned (.string b) = .returned (.string (str l)) := by rw [str_eq h]
theorem str_beq_yes {a b : List UInt8} (h : a = b) : ((str a).toList == (str b).toList) = true := by rw [h]; simp
theorem str_beq_no {a b : List UInt8} (h : ¬ a = b) : ((str a).toList == (str b).toList) = false := by
  rw [str_list, str_list]; simpa using h
theorem data_cut (s : ByteArray) (f k : Nat) : (s.extract f k).data.toList = (s.data.toList.take k).drop f := by
  simp [ByteArray.data_extract, List.extract_eq_take_drop, List.drop_take]
theorem str_from (l : List UInt8) (k : Nat) : (str l).extract k l.length = str (l.drop k) := by
  apply str_eq
  rw [data_cut, str_data, List.take_length]
theorem str_to (l : List UInt8) (k : Nat) : (str l).extract 0 k = str (l.take k) := by
  apply str_eq
  rw [data_cut, str_data, List.drop_zero]
theorem i64_bd {n : Int} (h : (Lit.int .i64 n).wf = true) : -9223372036854775808 ≤ n ∧ n ≤ 9223372036854775807 := bounds_i64 h
def cellsB (l : List UInt8) : List Value := l.map fun c => .int .u8 c.toNat
theorem cellsB_byteCells (l : List UInt8) : cellsB l = Lib.byteCells l := rfl
def OwnsBytes (w : World) (B : Nat) (v : Value) (l : List UInt8) : Prop := w.ownsRow B 5 1 v l.length (cellsB l)
theorem OwnsBytes.nil (w : World) (B : Nat) : OwnsBytes w B (.slice none 0 0) [] := World.ownsRow_nil _ _ _ _
theorem infoByte : (Tryd.prog.info? 5).map (fun i => (i.zero, i.size, i.bytes)) = some (some (.int .u8 0), 1, 1) := by kernel_rfl
/-- A row of bytes of the call's own, made a text. -/
theorem conv_owned {W : World} {B : Nat} {v : Value} {l : List UInt8} (h : OwnsBytes W B v l) :
    (convert 45 9 v).run Tryd.prog W = .ok (.string (str l)) W := by
  have h0 := h
  rcases h.2 with ⟨rfl, hz⟩ | ⟨g, cap, cur, rfl, _, hg, hc, _, hcs, ht⟩
  · have : l = [] := List.eq_nil_of_length_eq_zero hz
    subst this
    exact run_convert_bytes_nil (P := Tryd.prog) W 45 5 Tryd.underlying45 Tryd.underlying5 0 0 9 Tryd.underlying9
  · refine run_convert_bytes_back (P := Tryd.prog) W 45 9 5 ⟨g, 0, none⟩ cap l Tryd.underlying45 Tryd.underlying5 Tryd.underlying9 (fun j hj => ?_)
    have := World.ownsRow.cellAt (w := W) (base := B) (e := 5) (size := 1) (g := g) (cap := cap) (n := l.length) (xs := cellsB l) h0 j (by omega)
    rw [show (⟨g, 0, none⟩ : Addr).add j = ⟨g, j, none⟩ from by unfold Addr.add; simp; omega, this]
    unfold cellsB
    rw [List.getElem?_map, List.getElem?_eq_getElem hj]
    rfl
def longB (s : ByteArray) : Bool := decide (3000 < s.size)
theorem long_yes {s : ByteArray} (h : 3000 < s.size) : longB s = true := decide_eq_true h
theorem long_no {s : ByteArray} (h : ¬ 3000 < s.size) : longB s = false := decide_eq_false h
end Go.Proofs.YtpnmiknikkhliaaDoor
/- Contracts of the program's and the reference's small functions on bytes. -/
namespace Go.Proofs.YtpnmiknikkhliaaDoor
open Go.RowKit
def blankN (n : Int) : Bool := decide (n = 9) || decide (n = 10) || decide (n = 12) || decide (n = 13) || decide (n = 32)
theorem blankN_byte (c : UInt8) : blankN (c.toNat : Int) = Asc.isBlank c := by
  have h : ∀ m : Nat, m < 256 → decide ((c.toNat : Int) = m) = (c == UInt8.ofNat m) := by
    intro m hm
    rw [Bool.eq_iff_iff]
    simp only [decide_eq_true_eq, beq_iff_eq]
    constructor
    · intro e
      apply UInt8.toNat_inj.1
      simp
      omega
    · intro e
      rw [e]
      simp
      omega
  unfold blankN Asc.isBlank
  have h9 := h 9 (by omega); have h10 := h 10 (by omega); have h12 := h 12 (by omega); have h13 := h 13 (by omega); have h32 := h 32 (by omega)
  simp only [Int.cast_ofNat_Int] at h9 h10 h12 h13 h32
  rw [h9, h10, h12, h13, h32]
  rfl
def digN (n : Int) : Bool := decide (48 ≤ n ∧ n ≤ 57)
def letN (n : Int) : Bool := decide ((65 ≤ n ∧ n ≤ 90) ∨ (97 ≤ n ∧ n ≤ 122))
theorem digN_yes {n : Int} (h : 48 ≤ n) (h2 : n ≤ 57) : digN n = true := decide_eq_true ⟨h, h2⟩
theorem digN_no {n : Int} (h : n < 48 ∨ 57 < n) : digN n = false := decide_eq_false (by omega)
theorem letN_yes {n : Int} (h : (65 ≤ n ∧ n ≤ 90) ∨ (97 ≤ n ∧ n ≤ 122)) : letN n = true := decide_eq_true h
theorem letN_no {n : Int} (h : ¬ ((65 ≤ n ∧ n ≤ 90) ∨ (97 ≤ n ∧ n ≤ 122))) : letN n = false := decide_eq_false h
set_option maxHeartbeats 400000 in
theorem IsDigit_n (n : Int) (w : World) :
    Calls Tryd.prog 79 #[.int .u8 n] w fun e w' => e = .returned (.bool (digN n)) ∧ w' = w := by
  rcases (show n < 48 ∨ (48 ≤ n ∧ n ≤ 57) ∨ 57 < n from by omega) with h | ⟨h, h2⟩ | h
  · rw [digN_no (.inl h)]
    go_enter Tryd.func79, Tryd.ntmps79
    go_wp2
    go_ret
    exact ⟨ret_bool (by first | rfl | (simp <;> omega)), rfl⟩
  · rw [digN_yes h h2]
    go_enter Tryd.func79, Tryd.ntmps79
    go_wp2
    go_ret
    exact ⟨ret_bool (by first | rfl | (simp <;> omega)), rfl⟩
  · rw [digN_no (.inr h)]
    have h3 : 48 ≤ n := by omega
    go_enter Tryd.func79, Tryd.ntmps79
    go_wp2
    go_ret
    exact ⟨ret_bool (by first | rfl | (simp <;> omega)), rfl⟩
end Go.Proofs.YtpnmiknikkhliaaDoor
/- Slices of texts of the call's own. -/
namespace Go.Proofs.YtpnmiknikkhliaaDoor
open Go.RowKit
theorem info9 : (Tryd.prog.info? 9).map (fun i => (i.zero, i.size, i.bytes)) = some (some (.string ByteArray.empty), 1, 16) := by kernel_rfl
def strV (l : List UInt8) : Value := .string ⟨l.toArray⟩
theorem strV_data (s : ByteArray) : strV s.data.toList = .string s := by simp [strV]
theorem strV_cut (s : ByteArray) (f k : Nat) : strV ((s.data.toList.take k).drop f) = .string (s.extract f k) := by
  rw [← data_cut, strV_data]
/-- The slice owns these texts, in memory from 'B' on. -/
def OwnsTexts (w : World) (B : Nat) (v : Value) (ts : List (List UInt8)) : Prop := w.ownsRow B 9 1 v ts.length (ts.map strV)
theorem OwnsTexts.nil (w : World) (B : Nat) : OwnsTexts w B (.slice none 0 0) [] := World.ownsRow_nil _ _ _ _
theorem OwnsTexts.of {w : World} {B : Nat} {v : Value} {ts us : List (List UInt8)} {y : List UInt8} {x : Value} (h : us = ts ++ [y]) (hx : strV y = x) (ho : w.ownsRow B 9 1 v (ts.length + 1) (ts.map strV ++ [x])) : OwnsTexts w B v us := by
  subst h; subst hx
  unfold OwnsTexts
  simpa using ho
end Go.Proofs.YtpnmiknikkhliaaDoor
/- Slices that read as texts; the reference's Texts. -/
namespace Go.Proofs.YtpnmiknikkhliaaDoor
open Go.RowKit
/-- The slice reads as these texts. -/
def ReadsTexts (w : World) (v : Value) (ts : List (List UInt8)) : Prop :=
  (∃ a c, v = .slice a 0 c ∧ ts = []) ∨ ∃ b o c, v = .slice (some ⟨b, o, none⟩) ts.length c ∧ ts.length ≤ c ∧ ∀ (j : Nat) t, ts[j]? = some t → w.cell? ⟨b, o + j, none⟩ = some (strV t)
theorem OwnsTexts.reads {w : World} {B : Nat} {v : Value} {ts : List (List UInt8)} (h : OwnsTexts w B v ts) : ReadsTexts w v ts := by
  rcases h.2 with ⟨rfl, h0⟩ | ⟨g, cap, cur, rfl, _, hg, hc, _, hcs, ht⟩
  · exact .inl ⟨_, _, rfl, List.eq_nil_of_length_eq_zero h0⟩
  · refine .inr ⟨g, 0, cap, rfl, hc, fun j t hj => ?_⟩
    have hlt : j < ts.length := (List.getElem?_eq_some_iff.1 hj).1
    have := World.ownsRow.cellAt (w := w) (base := B) (e := 9) (size := 1) (g := g) (cap := cap) (n := ts.length) (xs := ts.map strV) h j (by omega)
    rw [Nat.zero_add, this, List.getElem?_map, hj]
    rfl
set_option maxHeartbeats 400000 in
theorem Texts_any (v u : Value) (ts us : List (List UInt8)) (w : World) (hv : ReadsTexts w v ts) (hu : ReadsTexts w u us) (hl : ts.length ≤ 1000000000) (hm : us.length ≤ 1000000000) :
    Calls Tryd.prog 19 #[v, u] w fun e w' => e = .returned (.bool (decide (ts = us))) ∧ ∃ n, w' = w.drewN n := by
  obtain ⟨a1, c1, rfl⟩ : ∃ a c, v = .slice a ts.length c := by
    rcases hv with ⟨a, c, rfl, rfl⟩ | ⟨b, o, c, rfl, _, _⟩
    · exact ⟨_, _, rfl⟩
    · exact ⟨_, _, rfl⟩
  obtain ⟨a2, c2, rfl⟩ : ∃ a c, u = .slice a us.length c := by
    rcases hu with ⟨a, c, rfl, rfl⟩ | ⟨b, o, c, rfl, _, _⟩
    · exact ⟨_, _, rfl⟩
    · exact ⟨_, _, rfl⟩
  by_cases hlen : ts.length = us.length
  · have hb : ((ts.length : Int) != (us.length : Int)) = false := by simp [hlen]
    go_enter Tryd.func19, Tryd.ntmps19
    have HL : Hid (ts.length = us.length) := hlen
    have HV : Hid (ReadsTexts w (.slice a1 ts.length c1) ts) := hv
    have HU : Hid (ReadsTexts w (.slice a2 us.length c2) us) := hu
    clear hlen hv hu
    go_wp2
    go_loopw [5] (fun i wr => ∃ k m : Nat, k ≤ ts.length ∧ i = .int .i64 k ∧ Hid (ts.take k = us.take k) ∧ wr = w.drewN m) (fun i _ => ts.length - (intOf i).toNat)
    case atStart => exact ⟨0, 0, Nat.zero_le _, rfl, rfl, rfl⟩
    case round =>
      obtain ⟨k, m, hk, rfl, HE, rfl⟩ := hrel
      by_cases hlt : k < ts.length
      · obtain ⟨t, ht⟩ : ∃ t, ts[k]? = some t := ⟨_, List.getElem?_eq_getElem hlt⟩
        obtain ⟨x, hx⟩ : ∃ x, us[k]? = some x := ⟨_, List.getElem?_eq_getElem (by have := HL.out; omega)⟩
        obtain ⟨b1, o1, rfl, hc1, hw1⟩ : ∃ b o, a1 = some ⟨b, o, none⟩ ∧ ts.length ≤ c1 ∧ w.cell? ⟨b, o + k, none⟩ = some (strV t) := by
          rcases HV.out with ⟨a, c, h1, rfl⟩ | ⟨b, o, c, h1, h2, h3⟩
          · simp at hlt
          · cases h1
            exact ⟨b, o, rfl, h2, h3 k t ht⟩
        obtain ⟨b2, o2, rfl, hc2, hw2⟩ : ∃ b o, a2 = some ⟨b, o, none⟩ ∧ us.length ≤ c2 ∧ w.cell? ⟨b, o + k, none⟩ = some (strV x) := by
          rcases HU.out with ⟨a, c, h1, rfl⟩ | ⟨b, o, c, h1, h2, h3⟩
          · simp at hx
          · cases h1
            exact ⟨b, o, rfl, h2, h3 k x hx⟩
        have HX : Hid (ts[k]? = some t ∧ us[k]? = some x) := ⟨ht, hx⟩
        clear ht hx
        unfold strV at hw1 hw2
        have hlt2 : k < us.length := by have := HL.out; omega
        by_cases htx : t = x
        · subst htx
          have HN : Hid (ts.take (k + 1) = us.take (k + 1)) := by
            show _ = _
            have h1 := HX.out.1
            have h2 := HX.out.2
            rw [List.take_add_one, List.take_add_one, HE.out, h1, h2]
          go_wp2
          go_quiet (fail)
          go_wp2
          go_roundw
          case rel => exact ⟨k + 1, m + nq, by omega, by go_num, HN, rfl⟩
          case measure => simp [intOf]; omega
        · have HN : Hid (decide (ts = us) = false) := by
            show _ = _
            rw [decide_eq_false_iff_not]
            rintro rfl
            have := HX.out.1.symm.trans HX.out.2
            exact htx (Option.some.inj this)
          have hne : (t == x) = false := by simp [htx]
          go_wp2
          go_quiet (fail)
          go_wp2
          go_ret
          exact ⟨ret_bool HN.out.symm, m + nq, by simp⟩
      · have HN : Hid (decide (ts = us) = true) := by
            show _ = _
            rw [decide_eq_true_eq]
            have h1 := HE.out
            have h2 := HL.out
            rwa [List.take_of_length_le (by omega), List.take_of_length_le (by omega)] at h1
        go_wp2
        go_ret
        exact ⟨ret_bool HN.out.symm, m, rfl⟩
  · have hb : ((ts.length : Int) != (us.length : Int)) = true := by simp; omega
    have HN : Hid (decide (ts = us) = false) := by
      show _ = _
      rw [decide_eq_false_iff_not]
      rintro rfl
      exact hlen rfl
    clear hv hu
    go_enter Tryd.func19, Tryd.ntmps19
    go_wp2
    go_ret
    exact ⟨ret_bool HN.out.symm, 0, rfl⟩
end Go.Proofs.YtpnmiknikkhliaaDoor
/- The contract of the program's Hex. -/
namespace Go.Proofs.YtpnmiknikkhliaaDoor
open Go.RowKit
theorem size_data (b : ByteArray) : b.size = b.data.toList.length := Array.length_toList.symm
theorem ret_pair {a b c d : Value} (h : a = c) (h2 : b = d) : Ending.returned (.tuple #[a, b]) = .returned (.tuple #[c, d]) := by rw [h, h2]
set_option maxHeartbeats 400000 in
theorem lowerByte_n (n : Int) (w : World) (h0 : 0 ≤ n) (h1 : n ≤ 255) :
    Calls Tryd.prog 102 #[.int .u8 n] w fun e w' => e = .returned (.int .u8 (Asc.lowN n)) ∧ w' = w := by
  by_cases h : 65 ≤ n ∧ n ≤ 90
  · have HN : Hid (Asc.lowN n = n + 32) := by show _ = _; unfold Asc.lowN; rw [if_pos h]
    obtain ⟨ha, hb⟩ := h
    go_enter Tryd.func102, Tryd.ntmps102
    go_wp2
    go_ret
    exact ⟨ret_int (by rw [HN.out]; omega), rfl⟩
  · have HN : Hid (Asc.lowN n = n) := by show _ = _; unfold Asc.lowN; rw [if_neg h]
    by_cases ha : 65 ≤ n
    · have hb : ¬ n ≤ 90 := by omega
      clear h
      go_enter Tryd.func102, Tryd.ntmps102
      go_wp2
      go_ret
      exact ⟨ret_int HN.out.symm, rfl⟩
    · clear h
      go_enter Tryd.func102, Tryd.ntmps102
      go_wp2
      go_ret
      exact ⟨ret_int HN.out.symm, rfl⟩
theorem byte_bd (c : UInt8) : (0 : Int) ≤ (c.toNat : Int) ∧ (c.toNat : Int) ≤ 255 := by have := c.toNat_lt; omega
theorem lowerByte_any (c : UInt8) (w : World) :
    Calls Tryd.prog 102 #[.int .u8 c.toNat] w fun e w' => e = .returned (.int .u8 (Asc.lowerC c).toNat) ∧ w' = w := by
  rw [← Asc.lowN_byte]
  exact lowerByte_n _ _ (byte_bd c).1 (byte_bd c).2
theorem take_all (a : ByteArray) (k : Nat) (h : a.size ≤ k) : a.data.toList.take k = a.data.toList := List.take_of_length_le (by simpa using h)
set_option maxHeartbeats 400000 in
theorem hexDigit_n (n : Int) (w : World) (h0 : 0 ≤ n) (h1 : n ≤ 255) :
    Calls Tryd.prog 101 #[.int .u8 n] w fun e w' => e = .returned (.tuple #[.int .u32 (Asc.hexV n), .bool (Asc.hexOk n)]) ∧ w' = w := by
  have hbd := Asc.lowN_bd n h0 h1
  obtain ⟨hb0, hb1⟩ := hbd
  rcases (show (48 ≤ Asc.lowN n ∧ Asc.lowN n ≤ 57) ∨ (97 ≤ Asc.lowN n ∧ Asc.lowN n ≤ 102) ∨ (Asc.lowN n < 48 ∨ (57 < Asc.lowN n ∧ Asc.lowN n < 97) ∨ 102 < Asc.lowN n) from by omega) with ⟨ha, hb⟩ | ⟨ha, hb⟩ | h
  · have HN : Hid (Asc.hexV n = Asc.lowN n - 48 ∧ Asc.hexOk n = true) := Asc.hex_digit n ha hb
    go_enter Tryd.func101, Tryd.ntmps101
    go_wp2_with (first
      | (go_at_call 102; refine (lowerByte_n n _ h0 h1).mono ?_; rintro e w1 ⟨rfl, hw⟩; rw [hw]; clear hw)
      | go_in)
    go_ret2
    exact ⟨ret_pair (by rw [HN.out.1]; rfl) (by rw [HN.out.2]; rfl), rfl⟩
  · have HN : Hid (Asc.hexV n = Asc.lowN n - 97 + 10 ∧ Asc.hexOk n = true) := Asc.hex_letter n ha hb
    go_enter Tryd.func101, Tryd.ntmps101
    go_wp2_with (first
      | (go_at_call 102; refine (lowerByte_n n _ h0 h1).mono ?_; rintro e w1 ⟨rfl, hw⟩; rw [hw]; clear hw)
      | go_in)
    go_ret2
    exact ⟨ret_pair (by rw [HN.out.1]; rfl) (by rw [HN.out.2]; rfl), rfl⟩
  · have HN : Hid (Asc.hexV n = 0 ∧ Asc.hexOk n = false) := Asc.hex_none n h
    rcases h with ha | ⟨ha, hb⟩ | ha
    all_goals
      go_enter Tryd.func101, Tryd.ntmps101
      go_wp2_with (first
        | (go_at_call 102; refine (lowerByte_n n _ h0 h1).mono ?_; rintro e w1 ⟨rfl, hw⟩; rw [hw]; clear hw)
        | go_in)
      go_ret2
      exact ⟨ret_pair (by rw [HN.out.1]; rfl) (by rw [HN.out.2]; rfl), rfl⟩
theorem hexDigit_any (c : UInt8) (w : World) :
    Calls Tryd.prog 101 #[.int .u8 c.toNat] w fun e w' => e = .returned (.tuple #[.int .u32 (Asc.hexV (Asc.bt c)), .bool (Asc.hexOk (Asc.bt c))]) ∧ w' = w := hexDigit_n _ _ (byte_bd c).1 (byte_bd c).2
set_option maxHeartbeats 400000 in
theorem isHex_any (s : ByteArray) (w : World) (hs : s.size ≤ 1000000000) :
    Calls Tryd.prog 100 #[.string s] w fun e w' => e = .returned (.bool (Asc.hexForm s.data.toList)) ∧ w' = w := by
  go_enter Tryd.func100, Tryd.ntmps100
  go_wp2
  go_loop [8] (fun i => ∃ k : Nat, k ≤ s.size ∧ i = .int .i64 k ∧ Hid (Asc.allHex (s.data.toList.take k) = true)) (fun i => s.size - (intOf i).toNat)
  case atStart => exact ⟨0, Nat.zero_le _, rfl, rfl⟩
  case round =>
    obtain ⟨k, hk, rfl, HE⟩ := hrel
    by_cases hlt : k < s.size
    · cases hx : Asc.hexOk (Asc.bt s[k])
      · have HN : Hid ((Asc.hexForm s.data.toList) = false) := by
          show _ = _
          unfold Asc.hexForm
          rw [Asc.allHex_not s.data.toList k hlt hx]
          rfl
        go_wp2_with (first
          | (go_at_call 101; refine (hexDigit_any _ _).mono ?_; rintro e w1 ⟨rfl, hw⟩; rw [hw]; clear hw))
        go_ret
        exact ⟨ret_bool HN.out.symm, rfl⟩
      · have HN : Hid (Asc.allHex (s.data.toList.take (k + 1)) = true) := by
          show _ = _
          rw [Asc.allHex_take s.data.toList k hlt, HE.out, Bool.true_and]
          exact hx
        go_wp2_with (first
          | (go_at_call 101; refine (hexDigit_any _ _).mono ?_; rintro e w1 ⟨rfl, hw⟩; rw [hw]; clear hw))
        go_round
        case rel => exact ⟨k + 1, by omega, by go_num, HN⟩
        case measure => simp [intOf]; omega
    · have HN : Hid (Asc.allHex s.data.toList = true) := by
        have := HE.out
        rwa [take_all s k (by omega)] at this
      go_wp2
      go_ret
      exact ⟨ret_bool (by unfold Asc.hexForm; rw [HN.out, ByteArray.toList_eq]; rfl), rfl⟩
theorem or_hex (n d : Int) (h0 : 0 ≤ n) (h1 : n ≤ 268435455) (h2 : 0 ≤ d) (h3 : d ≤ 15) : bits BinOp.or IntKind.u32 (n * 16) d = n * 16 + d := by
  obtain ⟨a, rfl⟩ := Int.eq_ofNat_of_zero_le h0
  obtain ⟨b, rfl⟩ := Int.eq_ofNat_of_zero_le h2
  rw [u32_or _ _ (by omega) (by omega) (by omega) (by omega)]
  have e : ((a : Int) * 16).toNat = 2 ^ 4 * a := by omega
  rw [e, Int.toNat_natCast, ← Nat.two_pow_add_eq_or_of_lt (show b < 2 ^ 4 by omega)]
  omega
set_option maxHeartbeats 400000 in
theorem Hex_any (s : ByteArray) (w : World) (hs : s.size ≤ 1000000000) :
    Calls Tryd.prog 96 #[.string s] w fun e w' => e = .returned (.tuple #[.int .u32 (Asc.hexNum s.data.toList), .int .i64 (Asc.hexErr s.data.toList)]) ∧ w' = w := by
  cases hx : (Asc.hexForm s.data.toList)
  · have HN : Hid (Asc.hexNum s.data.toList = 0 ∧ Asc.hexErr s.data.toList = 3) := Asc.hex_form _ (Asc.hexForm_no _ hx)
    go_enter Tryd.func96, Tryd.ntmps96
    go_wp2_with (first
      | (go_at_call 100; refine (isHex_any s _ hs).mono ?_; rintro e w1 ⟨rfl, hw⟩; rw [hw]; clear hw))
    go_ret2
    exact ⟨ret_pair (by rw [HN.out.1]; rfl) (by rw [HN.out.2]; rfl), rfl⟩
  · have HA : Hid (Asc.allHex s.data.toList = true ∧ s.data.toList ≠ []) := Asc.hexForm_yes _ hx
    go_enter Tryd.func96, Tryd.ntmps96
    go_wp2_with (first
      | (go_at_call 100; refine (isHex_any s _ hs).mono ?_; rintro e w1 ⟨rfl, hw⟩; rw [hw]; clear hw))
    clear hx
    go_loop [4, 13] (fun m i => ∃ (k : Nat) (n : Int), k ≤ s.size ∧ i = .int .i64 k ∧ m = .int .u32 n ∧ 0 ≤ n ∧ n ≤ 4294967295 ∧ Hid (Asc.hexFold n (s.data.toList.drop k) = Asc.hexFold 0 s.data.toList)) (fun _ i => s.size - (intOf i).toNat)
    case atStart => exact ⟨0, 0, Nat.zero_le _, rfl, rfl, by omega, by omega, rfl⟩
    case round =>
      obtain ⟨k, n, hk, rfl, rfl, hn0, hn1, HE⟩ := hrel
      by_cases hlt : k < s.size
      · by_cases hn : 268435455 < n
        · have HN : Hid (Asc.hexNum s.data.toList = 0 ∧ Asc.hexErr s.data.toList = 5) := Asc.hex_many _ HA.out (by rw [← HE.out]; exact Asc.hexFold_stop _ k n hlt hn)
          go_wp2
          go_ret2
          exact ⟨ret_pair (by rw [HN.out.1]; rfl) (by rw [HN.out.2]; rfl), rfl⟩
        · have hv := Asc.hexV_bd (Asc.bt s[k])
          obtain ⟨hv0, hv1⟩ := hv
          have HN : Hid (Asc.hexFold (n * 16 + Asc.hexV (Asc.bt s[k])) (s.data.toList.drop (k + 1)) = Asc.hexFold 0 s.data.toList) := by
            show _ = _
            rw [← HE.out]
            exact (Asc.hexFold_next _ k n hlt (by omega)).symm
          go_wp2_with (first
            | (go_at_call 101; refine (hexDigit_any _ _).mono ?_; rintro e w1 ⟨rfl, hw⟩; rw [hw]; clear hw))
          go_round
          case rel => exact ⟨k + 1, n * 16 + Asc.hexV (Asc.bt s[k]), by omega, by go_num, by rw [or_hex n _ hn0 (by omega) hv0 hv1], by omega, by omega, HN⟩
          case measure => simp [intOf]; omega
      · have HN : Hid (Asc.hexNum s.data.toList = n ∧ Asc.hexErr s.data.toList = 0) := Asc.hex_ok _ n HA.out (by rw [← HE.out]; exact Asc.hexFold_end _ k n (by simpa using Nat.le_of_not_lt hlt))
        go_wp2
        go_ret2
        exact ⟨ret_pair (by rw [HN.out.1]; rfl) (by rw [HN.out.2]; rfl), rfl⟩
end Go.Proofs.YtpnmiknikkhliaaDoor
/- The contracts of utf.shape and utf.part. -/
namespace Utf
def lo' (b : Nat) : Nat := if sz b ≤ 1 then 0 else lo b
def hi' (b : Nat) : Nat := if sz b ≤ 1 then 0 else hi b
def lowAt (b k : Nat) : Nat := if k = 1 then lo' b else 128
def highAt (b k : Nat) : Nat := if k = 1 then hi' b else 191
theorem sz_le4 (b : Nat) : sz b ≤ 4 := by
  unfold sz
  repeat' split
  all_goals omega
theorem lo_hi' {b : Nat} (h : ¬ sz b ≤ 1) : lo' b = lo b ∧ hi' b = hi b := by unfold lo' hi'; rw [if_neg h, if_neg h]; exact ⟨rfl, rfl⟩
theorem bad_at (b k x : Nat) (h : 1 < sz b) (hb : x < lowAt b k ∨ highAt b k < x) : (k = 1 → x < lo b ∨ hi b < x) ∧ (k ≠ 1 → x < 128 ∨ 191 < x) := by
  have e' := lo_hi' (b := b) (by omega)
  unfold lowAt highAt at hb
  rw [e'.1, e'.2] at hb
  constructor
  · intro e; rw [if_pos e, if_pos e] at hb; exact hb
  · intro e; rw [if_neg e, if_neg e] at hb; exact hb
theorem good_at (b k x : Nat) (h : 1 < sz b) (hb : ¬ (x < lowAt b k ∨ highAt b k < x)) : (k = 1 → lo b ≤ x ∧ x ≤ hi b) ∧ (k ≠ 1 → 128 ≤ x ∧ x ≤ 191) := by
  have e' := lo_hi' (b := b) (by omega)
  unfold lowAt highAt at hb
  rw [e'.1, e'.2] at hb
  constructor
  · intro e; rw [if_pos e, if_pos e] at hb; omega
  · intro e; rw [if_neg e, if_neg e] at hb; omega
theorem part_fail (l : List UInt8) (k : Nat) (h1 : 1 ≤ k) (hk : k ≤ (part l).1) (hs : k < sz (at' l 0)) (hb : at' l k < lowAt (at' l 0) k ∨ highAt (at' l 0) k < at' l k) : part l = (k, false) := by
  have hs4 := sz_le4 (at' l 0)
  obtain ⟨b1, b2⟩ := bad_at _ _ _ (by omega) hb
  clear hb
  have h3 : k = 1 ∨ k = 2 ∨ k = 3 := by omega
  unfold part partN at *
  revert hk
  rcases h3 with rfl | rfl | rfl
  · have := b1 rfl
    repeat' split
    all_goals intro hk
    all_goals first | rfl | (exfalso; omega)
  · have := b2 (by omega)
    repeat' split
    all_goals intro hk
    all_goals dsimp only at hk
    all_goals first | rfl | (exfalso; omega)
  · have := b2 (by omega)
    repeat' split
    all_goals intro hk
    all_goals dsimp only at hk
    all_goals first | rfl | (exfalso; omega)
theorem part_good (l : List UInt8) (k : Nat) (h1 : 1 ≤ k) (hk : k ≤ (part l).1) (hs : k < sz (at' l 0)) (hl : k < l.length) (hb : ¬ (at' l k < lowAt (at' l 0) k ∨ highAt (at' l 0) k < at' l k)) : k + 1 ≤ (part l).1 := by
  have hs4 := sz_le4 (at' l 0)
  obtain ⟨b1, b2⟩ := good_at _ _ _ (by omega) hb
  clear hb
  have h3 : k = 1 ∨ k = 2 ∨ k = 3 := by omega
  unfold part partN at *
  revert hk
  rcases h3 with rfl | rfl | rfl
  · have := b1 rfl
    repeat' split
    all_goals intro hk
    all_goals dsimp only at hk ⊢
    all_goals omega
  · have := b2 (by omega)
    repeat' split
    all_goals intro hk
    all_goals dsimp only at hk ⊢
    all_goals omega
  · have := b2 (by omega)
    repeat' split
    all_goals intro hk
    all_goals dsimp only at hk ⊢
    all_goals omega
theorem part_end (l : List UInt8) (k : Nat) (h : l ≠ []) (h1 : 1 ≤ k) (hk : k ≤ (part l).1) (hs : ¬ (k < sz (at' l 0) ∧ k < l.length)) : part l = (k, decide (k = sz (at' l 0))) := by
  have h4 := part_le4 l
  have hn := len_pos h
  have hs4 := sz_le4 (at' l 0)
  have hk4 : k ≤ 4 := by omega
  unfold part partN at *
  revert hk
  repeat' split
  all_goals intro hk
  all_goals dsimp only at hk
  all_goals first | (exfalso; omega) | skip
  all_goals rw [Prod.mk.injEq]
  all_goals refine ⟨by omega, ?_⟩
  all_goals symm
  all_goals first | (apply decide_eq_true; omega) | (apply decide_eq_false; omega)
end Utf
namespace Go.Proofs.YtpnmiknikkhliaaDoor
open Go.RowKit
theorem at_get (s : ByteArray) (k : Nat) (h : k < s.size) : s[k].toNat = Utf.at' s.data.toList k := by
  unfold Utf.at'
  rw [List.getD_eq_getElem?_getD, List.getElem?_eq_getElem (show k < s.data.toList.length from h)]
  rfl
theorem beq_nat (a b : Nat) : ((a : Int) == (b : Int)) = decide (a = b) := by
  rw [Bool.eq_iff_iff, beq_iff_eq, decide_eq_true_iff]
  omega
theorem quiet_more {w wr : World} (h : ∃ m, wr = w.drewN m) (n : Nat) : ∃ m, wr.drewN n = w.drewN m := by
  obtain ⟨m, rfl⟩ := h
  exact ⟨m + n, World.drewN_drewN _ _ _⟩
set_option maxHeartbeats 1000000 in
set_option maxRecDepth 100000 in
theorem shape_any (b : Nat) (hb : b < 256) (w : World) :
    Calls Tryd.prog 88 #[.int .u8 b] w fun e w' => e = .returned (.tuple #[.int .i64 (Utf.sz b : Nat), .int .u8 (Utf.lo' b : Nat), .int .u8 (Utf.hi' b : Nat)]) ∧ w' = w := by
  go_enter Tryd.func88, Tryd.ntmps88
  go_wp2
  all_goals go_ret3
  all_goals refine ⟨?_, rfl⟩
  all_goals simp only [beq_iff_eq, beq_eq_false_iff_ne, ne_eq] at *
  all_goals unfold Utf.lo' Utf.hi' Utf.sz Utf.lo Utf.hi
  all_goals repeat' split
  all_goals first | rfl | (exfalso; omega)
set_option maxHeartbeats 1000000 in
set_option maxRecDepth 100000 in
theorem part_any (s : ByteArray) (l : List UInt8) (hl : s.data.toList = l) (h : l ≠ []) (w : World) (hz : s.size ≤ 9223372036854775800) :
    Calls Tryd.prog 75 #[.string s] w fun e w' => e = .returned (.tuple #[.int .i64 ((Utf.part l).1 : Nat), .bool (Utf.part l).2]) ∧ ∃ n, w' = w.drewN n := by
  have hlen : s.size = l.length := by rw [← hl]; rfl
  have hn := Utf.len_pos h
  have hb0 := Utf.at_lt l 0
  have HL : Hid (s.data.toList = l) := hl
  have h0 : 0 < s.size := by omega
  have g0 : s[0].toNat = Utf.at' l 0 := by rw [at_get s 0 h0, hl]
  have hs4 := Utf.sz_le4 (Utf.at' l 0)
  clear hl
  go_enter Tryd.func75, Tryd.ntmps75
  go_wp2_with (go_at_call 88; refine (shape_any _ hb0 _).mono ?_; rintro e w1 ⟨rfl, hw⟩; rw [hw]; clear hw)
  go_loopw [2, 5, 6] (fun i lw hg wr => ∃ k : Nat, 1 ≤ k ∧ k ≤ (Utf.part l).1 ∧ i = .int .i64 k ∧ lw = .int .u8 (Utf.lowAt (Utf.at' l 0) k : Nat) ∧ hg = .int .u8 (Utf.highAt (Utf.at' l 0) k : Nat) ∧ Hid (∃ m, wr = w.drewN m)) (fun i _ _ _ => 5 - (intOf i).toNat)
  case atStart => exact ⟨1, Nat.le_refl _, Utf.part_pos l, rfl, rfl, rfl, 0, rfl⟩
  case round =>
    obtain ⟨k, hk1, hk, rfl, rfl, rfl, HW⟩ := hrel
    have hk4 := Utf.part_le4 l
    have hi64 : (k : Int) + 1 ≤ 9223372036854775807 := by omega
    by_cases hlt : k < Utf.sz (Utf.at' l 0) ∧ k < l.length
    · obtain ⟨q1, q2⟩ := hlt
      have hk2 : k < s.size := by omega
      have gk : s[k].toNat = Utf.at' l k := by rw [at_get s k hk2, HL.out]
      by_cases c1 : Utf.at' l k < Utf.lowAt (Utf.at' l 0) k
      · have HN : Hid (Utf.part l = (k, false)) := Utf.part_fail l k hk1 hk q1 (.inl c1)
        by_cases hq : l.length < Utf.sz (Utf.at' l 0)
        all_goals go_wp2
        all_goals go_ret2
        all_goals exact ⟨by rw [HN.out]; rfl, HW.out⟩
      by_cases c2 : Utf.highAt (Utf.at' l 0) k < Utf.at' l k
      · have HN : Hid (Utf.part l = (k, false)) := Utf.part_fail l k hk1 hk q1 (.inr c2)
        by_cases hq : l.length < Utf.sz (Utf.at' l 0)
        all_goals go_wp2
        all_goals go_ret2
        all_goals exact ⟨by rw [HN.out]; rfl, HW.out⟩
      have HN : Hid (k + 1 ≤ (Utf.part l).1) := Utf.part_good l k hk1 hk q1 q2 (by omega)
      have HV : Hid (Utf.lowAt (Utf.at' l 0) (k + 1) = 128 ∧ Utf.highAt (Utf.at' l 0) (k + 1) = 191) := by
        show _ ∧ _
        unfold Utf.lowAt Utf.highAt
        rw [if_neg (by omega), if_neg (by omega)]
        exact ⟨rfl, rfl⟩
      by_cases hq : l.length < Utf.sz (Utf.at' l 0)
      all_goals go_wp2
      all_goals go_roundw
      all_goals first
        | exact ⟨k + 1, by omega, HN.out, by go_num, by rw [HV.out.1]; rfl, by rw [HV.out.2]; rfl, HW⟩
        | (simp [intOf]; omega)
    · have HN : Hid (Utf.part l = (k, decide (k = Utf.sz (Utf.at' l 0)))) := Utf.part_end l k h hk1 hk hlt
      by_cases hq : l.length < Utf.sz (Utf.at' l 0)
      · have q3 : ¬ k < l.length := by omega
        clear hlt
        go_wp2
        go_ret2
        exact ⟨by rw [HN.out]; simp [beq_nat], HW.out⟩
      · have q3 : ¬ k < Utf.sz (Utf.at' l 0) := by omega
        clear hlt
        go_wp2
        go_ret2
        exact ⟨by rw [HN.out]; simp [beq_nat], HW.out⟩
end Go.Proofs.YtpnmiknikkhliaaDoor
/- The contracts of utf.Cut, and of the law's own 'long'. -/
namespace Go.Proofs.YtpnmiknikkhliaaDoor
open Go.RowKit
theorem drop_ne {l : List UInt8} {k : Nat} (h : k < l.length) : l.drop k ≠ [] := by
  intro e
  have := congrArg List.length e
  rw [List.length_drop, List.length_nil] at this
  omega
end Go.Proofs.YtpnmiknikkhliaaDoor
/- The contract of utf.IsText: a range over the bytes, sign by sign. -/
namespace Go.Proofs.YtpnmiknikkhliaaDoor
open Go.RowKit
theorem get_str (l : List UInt8) (i : Nat) : ((str l).get! i).toNat = Utf.at' l i := by
  unfold Utf.at' str
  rw [List.getD_eq_getElem?_getD]
  simp [ByteArray.get!]
  rfl
/-- What a range over a text meets at a place. -/
theorem dec_at (l : List UInt8) (k : Nat) : Utf8.decode (str l) k = Utf.dec (l.drop k) := by
  rw [Lib.decode_at, str_size, get_str, get_str, get_str, get_str]
  unfold Utf.dec
  rw [List.length_drop, Utf.at_drop, Utf.at_drop, Utf.at_drop, Utf.at_drop]
  rfl
theorem prefix_mark (l : List UInt8) : Lib.hasPrefix l [239, 191, 189] = decide (l.take 3 = [239, 191, 189]) := by
  unfold Lib.hasPrefix
  rw [Bool.eq_iff_iff, decide_eq_true_iff, List.isPrefixOf_iff_prefix, List.prefix_iff_eq_take]
  exact ⟨fun h => h.symm, fun h => h.symm⟩
theorem HasMark_any (l : List UInt8) (w : World) :
    Calls Tryd.prog 36 #[.string (str l), .string ⟨#[239, 191, 189]⟩] w fun e w' => e = .returned (.bool (decide (l.take 3 = [239, 191, 189]))) ∧ w' = w := by
  refine (Tryd.strings_HasPrefix (str l) ⟨#[239, 191, 189]⟩ w).mono ?_
  rintro e w' ⟨rfl, rfl⟩
  exact ⟨ret_bool (by rw [str_data, ← prefix_mark]), rfl⟩
theorem next_any (l : List UInt8) (wr : World) (b k : Nat) (hit : wr.heap[b]? = some (.stringIter (str l) k)) (hk : k < l.length) (ty : TypeId) :
    (Instr.next (.pointer (some ⟨b, 0, none⟩)) true ty).run Tryd.prog wr = .ok (.tuple #[.bool true, .int .i64 k, .int .i32 (Utf.dec (l.drop k)).1]) (wr.iterAt b (str l) (k + (Utf.dec (l.drop k)).2)) := by
  have := Lib.run_next_any_at (P := Tryd.prog) wr b (str l) k ty hit (by rw [str_size]; exact hk)
  rw [dec_at] at this
  exact this
theorem iter_end (l : List UInt8) (wr : World) (b k : Nat) (hit : wr.heap[b]? = some (.stringIter (str l) k)) (hk : ¬ k < l.length) (ty : TypeId) :
    (Instr.next (.pointer (some ⟨b, 0, none⟩)) true ty).run Tryd.prog wr = .ok (.tuple #[.bool false]) wr :=
  Lib.run_next_end_at (P := Tryd.prog) wr b (str l) k ty hit (by rw [str_size]; exact hk)
set_option maxHeartbeats 1000000 in
set_option maxRecDepth 100000 in
theorem IsText_any (l : List UInt8) (w : World) :
    Calls Tryd.prog 22 #[.string (str l)] w fun e w' => e = .returned (.bool (Utf.isText l)) ∧ Below w.heap.size w w' := by
  have hsz := str_size l
  go_enter Tryd.func22, Tryd.ntmps22
  go_wp2
  go_loopw [] (fun wr => ∃ k : Nat, k ≤ l.length ∧ wr.heap[w.heap.size]? = some (.stringIter (str l) k) ∧ Hid (Utf.isText l = Utf.isText (l.drop k)) ∧ Below w.heap.size w wr) (fun wr => l.length - wr.iterPos w.heap.size)
  case atStart => exact ⟨0, Nat.zero_le _, World.iter_heap w (str l) 0, rfl, (Below.refl _ w).alloc (Nat.le_refl _) _⟩
  case round =>
    obtain ⟨k, hk, hit, HE, hbw⟩ := hrel
    by_cases hlt : k < l.length
    · have hne := drop_ne hlt
      have hst := Utf.dec_step (l.drop k) hne
      have hpl := Utf.part_len (l.drop k) hne
      rw [List.length_drop] at hpl
      have hnx := next_any l wr w.heap.size k hit hlt
      have hit2 := Lib.iterAt_heap wr w.heap.size (str l) k (k + (Utf.dec (l.drop k)).2) hit
      have hbw2 := Lib.below_iterAt hbw (k := w.heap.size) (Nat.le_refl _) (str l) (k + (Utf.dec (l.drop k)).2)
      have hext : (str l).extract k l.length = str (l.drop k) := str_from l k
      by_cases hw : (Utf.part (l.drop k)).2 = true
      · have HS : Hid ((Utf.dec (l.drop k)).2 = (Utf.part (l.drop k)).1) := Utf.dec_whole _ hne hw
        have HN : Hid (Utf.isText l = Utf.isText (l.drop (k + (Utf.dec (l.drop k)).2))) := by
          show _ = _
          rw [HE.out, Utf.isText_go _ hne, hw, Bool.true_and, List.drop_drop, HS.out]
        by_cases hc : (Utf.dec (l.drop k)).1 = 65533
        · have hq : (((Utf.dec (l.drop k)).1 : Int) == 65533) = true := by rw [hc]; rfl
          have hm : decide ((l.drop k).take 3 = [239, 191, 189]) = true := decide_eq_true ((Utf.bad_iff _ hne hc).1 hw)
          have hc2 : Hid ((Utf.dec (l.drop k)).1 = 65533) := hc
          clear hc hw
          go_wp2_with (go_at_call 36; refine (HasMark_any _ _).mono ?_; rintro e w1 ⟨rfl, hw1⟩; rw [hw1]; clear hw1)
          go_roundw
          case rel => exact ⟨k + (Utf.dec (l.drop k)).2, by omega, hit2, HN, hbw2⟩
          case measure => simp only [World.iterPos, hit2, hit]; omega
        · have hq : (((Utf.dec (l.drop k)).1 : Int) == 65533) = false := by rw [beq_eq_false_iff_ne]; omega
          have hc2 : Hid (¬ (Utf.dec (l.drop k)).1 = 65533) := hc
          clear hc hw
          go_wp2
          go_roundw
          case rel => exact ⟨k + (Utf.dec (l.drop k)).2, by omega, hit2, HN, hbw2⟩
          case measure => simp only [World.iterPos, hit2, hit]; omega
      · have hw' : (Utf.part (l.drop k)).2 = false := by simpa using hw
        have hd := Utf.dec_bad _ hne hw'
        have hq : (((Utf.dec (l.drop k)).1 : Int) == 65533) = true := by rw [hd]; rfl
        have hm : decide ((l.drop k).take 3 = [239, 191, 189]) = false := by
          apply decide_eq_false
          intro e
          exact hw ((Utf.bad_iff _ hne (by rw [hd])).2 e)
        have HN : Hid (Utf.isText l = false) := by
          show _ = _
          rw [HE.out, Utf.isText_go _ hne, hw', Bool.false_and]
        clear hd hw hw'
        go_wp2_with (go_at_call 36; refine (HasMark_any _ _).mono ?_; rintro e w1 ⟨rfl, hw1⟩; rw [hw1]; clear hw1)
        go_ret
        exact ⟨ret_bool HN.out.symm, hbw2⟩
    · have hnx := iter_end l wr w.heap.size k hit hlt
      have HN : Hid (Utf.isText l = true) := by
        show _ = _
        rw [HE.out, List.drop_of_length_le (by omega), Utf.isText_nil]
      go_wp2
      go_ret
      exact ⟨ret_bool HN.out.symm, hbw⟩
end Go.Proofs.YtpnmiknikkhliaaDoor
/- The contracts of strings.Builder's copyCheck and WriteRune at this translation, in which copyCheck's panic is a wall: a builder that the call itself has made. -/
namespace Go.Proofs.YtpnmiknikkhliaaDoor
open Go.RowKit
theorem sizeBuilder : (Tryd.prog.info? 84).map (·.size) = some 2 := by kernel_rfl
set_option maxHeartbeats 1000000 in
set_option maxRecDepth 100000 in
theorem copyCheck_used (b : Nat) (w : World) (h0 : w.cell? ⟨b, 0, none⟩ = some (.pointer (some ⟨b, 0, none⟩))) :
    Calls Tryd.prog 76 #[.pointer (some ⟨b, 0, none⟩)] w fun e w' => e = .returned (.tuple #[]) ∧ w' = w := by
  obtain ⟨j, hj, hjs⟩ := Option.map_eq_some_iff.1 sizeBuilder
  go_enter Tryd.func76, Tryd.ntmps76
  go_wp2
  rw [Lib.run_neq_ptr_same w _ Tryd.underlying82 hj]
  go_wp2
  go_end0
  exact ⟨rfl, rfl⟩
/-- A builder's address, made a bare one, and back. -/
theorem to_bare (b : Nat) (w : World) (hsh : w.shape? b = some (84, 2)) :
    (convert 82 116 (.pointer (some ⟨b, 0, none⟩))).run Tryd.prog w = .ok (.pointer (some ⟨b, 0, none⟩)) w := by
  obtain ⟨j, hj, hjs⟩ := Option.map_eq_some_iff.1 sizeBuilder
  simp [convert, run_underlying Tryd.underlying82, run_underlying Tryd.underlying116, Conv.unsafePointer, Conv.seenAt, viewAt, cellsIn, hsh, sizeOf, typeInfo, hj, hjs]
theorem liesB : liesAt Tryd.prog Tryd.prog.depth 84 (2 / Tryd.prog.cellsOf 84) 0 84 1 = true := by kernel_rfl
theorem of_bare (b : Nat) (w : World) (hsh : w.shape? b = some (84, 2)) :
    (convert 116 82 (.pointer (some ⟨b, 0, none⟩))).run Tryd.prog w = .ok (.pointer (some ⟨b, 0, none⟩)) w := by
  obtain ⟨j, hj, hjs⟩ := Option.map_eq_some_iff.1 sizeBuilder
  simp [convert, run_underlying Tryd.underlying82, run_underlying Tryd.underlying116, Conv.unsafePointer, Conv.seenAt, viewAt, hsh, variablesAt, liesB, sizeOf, typeInfo, hj]
set_option maxHeartbeats 1000000 in
set_option maxRecDepth 100000 in
theorem copyCheck_fresh (b : Nat) (w : World) (h0 : w.cell? ⟨b, 0, none⟩ = some (.pointer none)) (hsh : w.shape? b = some (84, 2)) (hfz : w.frozen? ⟨b, 0, none⟩ = false) :
    Calls Tryd.prog 76 #[.pointer (some ⟨b, 0, none⟩)] w fun e w' => e = .returned (.tuple #[]) ∧ w' = w.setCell ⟨b, 0, none⟩ (.pointer (some ⟨b, 0, none⟩)) := by
  go_enter Tryd.func76, Tryd.ntmps76
  go_wp2
  rw [to_bare b w hsh]
  simp only [Result.andThen]
  rw [Oper.upon_value]
  go_wp2
  rw [run_callFunc_extern Tryd.func89 (by kernel_rfl) (by kernel_rfl) (by kernel_rfl) (e := Extern.AbiNoEscape.same) (by kernel_rfl)]
  rw [Lib.run_noEscape]
  simp only [Result.andThen]
  rw [Oper.upon_value]
  go_wp2
  rw [of_bare b w hsh]
  simp only [Result.andThen]
  rw [Oper.upon_value]
  go_wp2
  go_end0
  exact ⟨rfl, rfl⟩
theorem copyCheck_k (B b : Nat) (bs : List Value) (w : World) (h : Lib.IsBuilderF 84 5 B b bs w) :
    Calls Tryd.prog 76 #[.pointer (some ⟨b, 0, none⟩)] w fun e w' => e = .returned (.tuple #[]) ∧ (Lib.BuilderAtF 84 5 B b (.pointer (some ⟨b, 0, none⟩)) bs w' ∧ Below B w w' ∧ Lib.OthersKept 5 (some b) w w') := by
  rcases h with h | h
  · refine (copyCheck_fresh b w h.cell0 h.shape h.frozen0).mono ?_
    rintro e w' ⟨rfl, rfl⟩
    exact ⟨rfl, h.used _, (Below.refl B w).setCell (p := ⟨b, 0, none⟩) h.1 _, (Lib.OthersKept.refl _ _ w).setCell ⟨b, 0, none⟩ rfl _⟩
  · refine (copyCheck_used b w h.cell0).mono ?_
    rintro e w' ⟨rfl, hw⟩
    rw [hw]
    exact ⟨rfl, h, Below.refl B _, Lib.OthersKept.refl _ _ _⟩
set_option maxHeartbeats 4000000 in
set_option maxRecDepth 100000 in
theorem WriteRune_k (B b : Nat) (bs : List Value) (r : Int) (hr0 : -2147483648 ≤ r) (hr1 : r ≤ 2147483647) (w : World) (h : Lib.IsBuilderF 84 5 B b bs w) (hlen : bs.length + 4 ≤ 140737488355328) (hBw : B ≤ w.heap.size) :
    Calls Tryd.prog 68 #[.pointer (some ⟨b, 0, none⟩), .int .i32 r] w fun e w' => e = .returned (.tuple #[.int .i64 (Lib.runeCells r).length, .nilIface]) ∧ (Lib.BuilderAtF 84 5 B b (.pointer (some ⟨b, 0, none⟩)) (bs ++ Lib.runeCells r) w' ∧ Below B w w' ∧ Lib.OthersKept 5 (some b) w w') := by
  have hk4 := Lib.runeCells_le r
  go_enter Tryd.func68, Tryd.ntmps68
  go_wp2_with (go_at_call 76; refine (copyCheck_k B b bs _ h).mono ?_)
  rintro e w1 ⟨rfl, ⟨hB, v, hbk, hown, hne⟩, hb1, hk1⟩
  have hsz := hb1.size
  have hv : ∃ ao cap, v = .slice ao bs.length cap := by
    rcases hown.2 with ⟨hv, h0⟩ | ⟨g, cap, cur, fz, hv, _⟩
    · exact ⟨none, 0, by rw [hv, h0]⟩
    · exact ⟨_, _, hv⟩
  obtain ⟨ao, cap, rfl⟩ := hv
  have c0 : w1.cell? ⟨b, 0, none⟩ = some (.pointer (some ⟨b, 0, none⟩)) := by rw [Lib.cell_of_heap hbk]; rfl
  have c1 : w1.cell? ⟨b, 1, none⟩ = some (.slice ao bs.length cap) := by rw [Lib.cell_of_heap hbk]; rfl
  have hlt : b < w1.heap.size := (Array.getElem?_eq_some_iff.1 hbk).1
  go_wp2_with (go_at_call 83; refine (Tryd.utf8_AppendRune_row B _ bs.length bs r hr0 hr1 _ hown hlen (by omega)).mono ?_)
  rintro e w2 ⟨v', rfl, hown', o, hgrow⟩
  have hb2 : w2.heap[b]? = some (.cells #[.pointer (some ⟨b, 0, none⟩), .slice ao bs.length cap] 84 (0, 0)) := by
    rw [hgrow.block b (by simp; omega) (fun e => hne e.symm), Lib.alloc_old w1 _ b hlt]
    exact hbk
  have d0 : w2.cell? ⟨b, 0, none⟩ = some (.pointer (some ⟨b, 0, none⟩)) := by rw [Lib.cell_of_heap hb2]; rfl
  have d1 : w2.cell? ⟨b, 1, none⟩ = some (.slice ao bs.length cap) := by rw [Lib.cell_of_heap hb2]; rfl
  have f1 : w2.frozen? ⟨b, 1, none⟩ = false := Lib.frozen_of_heap hb2 1
  have hv' : ∃ g cap', v' = .slice (some ⟨g, 0, none⟩) (bs.length + (Lib.runeCells r).length) cap' := by
    rcases hown'.2 with ⟨_, h0⟩ | ⟨g, cap', cur, fz, hv, _⟩
    · omega
    · exact ⟨g, cap', hv⟩
  obtain ⟨g, cap', rfl⟩ := hv'
  go_wp2
  go_ret2
  refine ⟨?_, ?_, ?_, ((hk1.alloc _).grown hgrow (Lib.ownsRowF_kind (hown.alloc _))).setCell ⟨b, 1, none⟩ rfl _⟩
  · have e : ((bs.length : Int) + ((Lib.runeCells r).length : Int) - (bs.length : Int)) = ((Lib.runeCells r).length : Int) := by omega
    simp [e]
  · exact Lib.BuilderAtF.put (T := 84) (e := 5) hB hb2 (bs' := bs ++ Lib.runeCells r) (by simpa using hown') (by decide)
  · exact ((hb1.alloc (by omega) _).grown hgrow (by simp; omega) (fun k hk => (hown.lt k hk).1)).setCell (p := ⟨b, 1, none⟩) hB _
end Go.Proofs.YtpnmiknikkhliaaDoor
/- The contract of utf.Repair: a builder written in a range over the bytes. -/
namespace Go.Proofs.YtpnmiknikkhliaaDoor
open Go.RowKit
theorem builder_drewN {T e : TypeId} {B b : Nat} {bs : List Value} {w : World} (n : Nat) (h : Lib.IsBuilderF T e B b bs w) : Lib.IsBuilderF T e B b bs (w.drewN n) := by
  unfold Lib.IsBuilderF Lib.BuilderAtF World.ownsRowF at *
  simpa using h
theorem below_drewN {B : Nat} {w w' : World} (n : Nat) (h : Below B w w') : Below B w (w'.drewN n) :=
  ⟨h.os, h.tape, h.output, by simpa using h.size, by simpa using h.block⟩
set_option maxHeartbeats 2000000 in
set_option maxRecDepth 100000 in
theorem Repair_any (l : List UInt8) (w : World) (hz : l.length ≤ 1000000000) :
    Calls Tryd.prog 55 #[.string (str l)] w fun e w' => e = .returned (.string (str (Utf.rep l))) ∧ Below w.heap.size w w' := by
  have hsz := str_size l
  go_enter Tryd.func55, Tryd.ntmps55
  go_wp2
  go_loopw [4] (fun e wr => ∃ (k en : Nat) (acc : List UInt8), k ≤ l.length ∧ en ≤ l.length ∧ e = .int .i64 en ∧ Lib.IsBuilderF 84 5 w.heap.size w.heap.size (Lib.byteCells acc) wr ∧ wr.heap[w.heap.size + 1]? = some (.stringIter (str l) k) ∧ Below w.heap.size w wr ∧ Hid (acc ++ Utf.rep (l.drop (max k en)) = Utf.rep l) ∧ Hid (∀ j, k ≤ j → j < en → 128 ≤ Utf.at' l j ∧ Utf.at' l j ≤ 191) ∧ acc.length ≤ 4 * k) (fun _ wr => l.length - wr.iterPos (w.heap.size + 1))
  case atStart =>
    refine ⟨0, 0, [], Nat.zero_le _, Nat.zero_le _, rfl, (Lib.IsBuilderF.of (Lib.fresh_isBuilder 84 5 w)).alloc _, ?_, ((Below.refl _ w).alloc (Nat.le_refl _) _).alloc (by simp) _, rfl, ?_, by simp⟩
    · have := World.iter_heap (w.alloc (.cells #[.pointer none, .slice none 0 0] 84)) (str l) 0
      simpa using this
    · intro j _ h; omega
  case round =>
    obtain ⟨k, en, acc, hk, hen, rfl, hI, hit, hbw, HE, HC, hal⟩ := hrel
    by_cases hlt : k < l.length
    · have hne := drop_ne hlt
      have hst := Utf.dec_step (l.drop k) hne
      have hpl := Utf.part_len (l.drop k) hne
      rw [List.length_drop] at hpl
      have hsz1 : w.heap.size + 1 < wr.heap.size := (Array.getElem?_eq_some_iff.1 hit).1
      have hnx := next_any l wr (w.heap.size + 1) k hit hlt
      have hI2 := hI.iterAt hit (k + (Utf.dec (l.drop k)).2)
      have hit2 := Lib.iterAt_heap wr (w.heap.size + 1) (str l) k (k + (Utf.dec (l.drop k)).2) hit
      have hbw2 := Lib.below_iterAt hbw (k := w.heap.size + 1) (by omega) (str l) (k + (Utf.dec (l.drop k)).2)
      have hsz2 : w.heap.size ≤ (wr.iterAt (w.heap.size + 1) (str l) (k + (Utf.dec (l.drop k)).2)).heap.size := by rw [Lib.iterAt_size]; omega
      have hext : (str l).extract k l.length = str (l.drop k) := str_from l k
      by_cases hin : k < en
      · have HD : Hid (Utf.dec (l.drop k) = (65533, 1)) := by
          refine Utf.dec_cont _ ?_
          rw [Utf.at_drop]
          exact HC.out k (Nat.le_refl _) hin
        go_wp2
        go_roundw
        case rel =>
          refine ⟨k + (Utf.dec (l.drop k)).2, en, acc, by omega, hen, rfl, hI2, hit2, hbw2, ?_, ?_, by omega⟩
          · show _ = _
            rw [HD.out, show max (k + 1) en = max k en by omega]; exact HE.out
          · intro j hj hj2
            exact HC.out j (by omega) hj2
        case measure => simp only [World.iterPos, hit2, hit]; omega
      · have hright := Utf.right_lt (Utf.dec_right _ hne)
        have HR : Hid (acc ++ Lib.encodeRune (Utf.dec (l.drop k)).1 ++ Utf.rep (l.drop (k + (Utf.part (l.drop k)).1)) = Utf.rep l) := by
          show _ = _
          rw [← HE.out, show max k en = k by omega, Utf.rep_go _ hne, List.drop_drop, List.append_assoc]
        have hl4 := Utf.enc_len ((Utf.dec (l.drop k)).1 : Int)
        by_cases hc : (Utf.dec (l.drop k)).1 = 65533
        · have hq : (((Utf.dec (l.drop k)).1 : Int) == 65533) = true := by rw [hc]; rfl
          have hc2 : Hid ((Utf.dec (l.drop k)).1 = 65533) := hc
          clear hc
          go_wp2_with (first
            | (go_at_call 75; refine (part_any _ (l.drop k) (str_data _) hne _ (by rw [str_size, List.length_drop]; omega)).mono ?_; rintro e w1 ⟨rfl, n1, rfl⟩)
            | (go_at_call 68; refine (WriteRune_k w.heap.size w.heap.size _ _ (by omega) (by omega) _ (builder_drewN _ hI2) (by rw [Lib.byteCells_length]; omega) hsz2).mono ?_; rintro e W1 ⟨rfl, h1, b1, k1⟩))
          have hit3 := k1.iter (k := w.heap.size + 1) (by simpa using hit2) (by omega)
          go_roundw
          case rel =>
            refine ⟨k + (Utf.dec (l.drop k)).2, k + (Utf.part (l.drop k)).1, acc ++ Lib.encodeRune (Utf.dec (l.drop k)).1, by omega, by omega, by go_num, ?_, hit3, (below_drewN n1 hbw2).trans b1, ?_, ?_, by rw [List.length_append]; omega⟩
            · rw [Lib.byteCells_append, Lib.byteCells_encodeRune]; exact Or.inr h1
            · show _ = _
              rw [show max (k + (Utf.dec (l.drop k)).2) (k + (Utf.part (l.drop k)).1) = k + (Utf.part (l.drop k)).1 by omega]
              exact HR.out
            · intro j hj hj2
              have := Utf.part_cont (l.drop k) (j - k) (by omega) (by omega)
              rw [Utf.at_drop, show k + (j - k) = j by omega] at this
              exact this
          case measure => simp only [World.iterPos, hit3, hit]; omega
        · have hq : (((Utf.dec (l.drop k)).1 : Int) == 65533) = false := by rw [beq_eq_false_iff_ne]; omega
          have HS : Hid ((Utf.dec (l.drop k)).2 = (Utf.part (l.drop k)).1) := Utf.dec_whole _ hne (Utf.ok_of_other _ hne hc)
          clear hc
          go_wp2_with (go_at_call 68; refine (WriteRune_k w.heap.size w.heap.size _ _ (by omega) (by omega) _ hI2 (by rw [Lib.byteCells_length]; omega) hsz2).mono ?_; rintro e W1 ⟨rfl, h1, b1, k1⟩)
          have hit3 := k1.iter (k := w.heap.size + 1) hit2 (by omega)
          go_roundw
          case rel =>
            refine ⟨k + (Utf.dec (l.drop k)).2, en, acc ++ Lib.encodeRune (Utf.dec (l.drop k)).1, by omega, hen, rfl, ?_, hit3, hbw2.trans b1, ?_, ?_, by rw [List.length_append]; omega⟩
            · rw [Lib.byteCells_append, Lib.byteCells_encodeRune]; exact Or.inr h1
            · show _ = _
              rw [show max (k + (Utf.dec (l.drop k)).2) en = k + (Utf.dec (l.drop k)).2 by omega, HS.out]
              exact HR.out
            · intro j hj hj2
              omega
          case measure => simp only [World.iterPos, hit3, hit]; omega
    · have hnx := iter_end l wr (w.heap.size + 1) k hit hlt
      have HN : Hid (acc = Utf.rep l) := by
        show _ = _
        have := HE.out
        rw [List.drop_of_length_le (by omega), Utf.rep_nil, List.append_nil] at this
        exact this
      have hsz1 : w.heap.size + 1 < wr.heap.size := (Array.getElem?_eq_some_iff.1 hit).1
      go_wp2_with (go_at_call 59; refine (Tryd.Builder_String_any_k w.heap.size w.heap.size acc _ hI (by omega)).mono ?_; rintro e W1 ⟨rfl, _, b1, _⟩)
      go_ret
      exact ⟨by rw [← HN.out]; rfl, hbw.trans b1⟩
end Go.Proofs.YtpnmiknikkhliaaDoor
