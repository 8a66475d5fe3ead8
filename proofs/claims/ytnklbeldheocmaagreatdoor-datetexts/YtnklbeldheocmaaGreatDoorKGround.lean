/- Texts laid as one. -/
import Derived.Test.YtnklbeldheocmaaGreatDoorRows
import Derived.WalkKit
import Derived.ProofKit
import Derived.OpenShut
import Derived.WalkSpells
import Derived.WalkSmall
import Derived.Below
import Derived.BigQuiet
import Derived.BigCall
import Derived.Deep.QuietTactic
import Derived.Laws.IdiomStrings
import Derived.Laws.OwnMore
import Derived.Lib.OthersKept
import Derived.Test.YtnklbeldheocmaaGreatDoorKMath
import Derived.Maps.AppendAt
import Derived.Laws.BitsAllLaws
import Derived.Lib.SmallJoins
import Derived.RegionTactic
/- What the contracts of every seat share: texts as lists of bytes, rows of bytes of the call's own, worlds that only grow. -/
namespace Go.Proofs.YtnklbeldheocmaaGreatDoor
open Go.RowKit
theorem ret_bool {a b : Bool} (h : a = b) : Ending.returned (.bool a) = .returned (.bool b) := by rw [h]
theorem ret_int {k : IntKind} {a b : Int} (h : a = b) : Ending.returned (.int k a) = .returned (.int k b) := by rw [h]
theorem bel {w W W' : World} (h : Below w.heap.size w W) (h2 : Below W.heap.size W W') : Below w.heap.size w W' := h.trans (h2.mono h.size)
/-- The text of these bytes. -/
def str (l : List UInt8) : ByteArray := ⟨l.toArray⟩
theorem str_size (l : List UInt8) : (str l).size = l.length := by simp [str, ByteArray.size]
theorem str_data (l : List UInt8) : (str l).data.toList = l := by simp [str]
theorem str_list (a : List UInt8) : (str a).toList = a := by rw [ByteArray.toList_eq, str_data]
theorem str_eq {b : ByteArray} {l : List UInt8} (h : b.data.toList = l) : b = str l := by
  subst h
  cases b
  simp [str]
theorem str_self (s : ByteArray) : str s.data.toList = s := (str_eq rfl).symm
theorem ret_text {b : ByteArray} {l : List UInt8} (h : b.data.toList = l) : Ending.returned (.string b) = .returned (.string (str l)) := by rw [str_eq h]
theorem str_beq_yes {a b : List UInt8} (h : a = b) : ((str a).toList == (str b).toList) = true := by rw [h]; simp
theorem str_beq_no {a b : List UInt8} (h : ¬ a = b) : ((str a).toList == (str b).toList) = false := by
  rw [str_list, str_list]; simpa using h
theorem data_cut (s : ByteArray) (f k : Nat) : (s.extract f k).data.toList = (s.data.toList.take k).drop f := by
  simp [ByteArray.data_extract, List.extract_eq_take_drop, List.drop_take]
theorem str_from (l : List UInt8) (k : Nat) : (str l).extract k l.length = str (l.drop k) := by
  apply str_eq
  rw [data_cut, str_data, List.take_length]
theorem str_to (l : List UInt8) (k : Nat) : (str l).extract 0 k = str (l.take k) := by
  apply str_eq
  rw [data_cut, str_data, List.drop_zero]
theorem i64_bd {n : Int} (h : (Lit.int .i64 n).wf = true) : -9223372036854775808 ≤ n ∧ n ≤ 9223372036854775807 := bounds_i64 h
def cellsB (l : List UInt8) : List Value := l.map fun c => .int .u8 c.toNat
theorem cellsB_byteCells (l : List UInt8) : cellsB l = Lib.byteCells l := rfl
def OwnsBytes (w : World) (B : Nat) (v : Value) (l : List UInt8) : Prop := w.ownsRow B 5 1 v l.length (cellsB l)
theorem OwnsBytes.nil (w : World) (B : Nat) : OwnsBytes w B (.slice none 0 0) [] := World.ownsRow_nil _ _ _ _
theorem infoByte : (Tryz.prog.info? 5).map (fun i => (i.zero, i.size, i.bytes)) = some (some (.int .u8 0), 1, 1) := by kernel_rfl
/-- A row of bytes of the call's own, made a text. -/
theorem conv_owned {W : World} {B : Nat} {v : Value} {l : List UInt8} (h : OwnsBytes W B v l) :
    (convert 84 9 v).run Tryz.prog W = .ok (.string (str l)) W := by
  have h0 := h
  rcases h.2 with ⟨rfl, hz⟩ | ⟨g, cap, cur, rfl, _, hg, hc, _, hcs, ht⟩
  · have : l = [] := List.eq_nil_of_length_eq_zero hz
    subst this
    exact run_convert_bytes_nil (P := Tryz.prog) W 84 5 Tryz.underlying84 Tryz.underlying5 0 0 9 Tryz.underlying9
  · refine run_convert_bytes_back (P := Tryz.prog) W 84 9 5 ⟨g, 0, none⟩ cap l Tryz.underlying84 Tryz.underlying5 Tryz.underlying9 (fun j hj => ?_)
    have := World.ownsRow.cellAt (w := W) (base := B) (e := 5) (size := 1) (g := g) (cap := cap) (n := l.length) (xs := cellsB l) h0 j (by omega)
    rw [show (⟨g, 0, none⟩ : Addr).add j = ⟨g, j, none⟩ from by unfold Addr.add; simp; omega, this]
    unfold cellsB
    rw [List.getElem?_map, List.getElem?_eq_getElem hj]
    rfl
def longB (s : ByteArray) : Bool := decide (3000 < s.size)
theorem long_yes {s : ByteArray} (h : 3000 < s.size) : longB s = true := decide_eq_true h
theorem long_no {s : ByteArray} (h : ¬ 3000 < s.size) : longB s = false := decide_eq_false h
end Go.Proofs.YtnklbeldheocmaaGreatDoor
/- Contracts of the program's and the reference's small functions on bytes. -/
namespace Go.Proofs.YtnklbeldheocmaaGreatDoor
open Go.RowKit
def blankN (n : Int) : Bool := decide (n = 9) || decide (n = 10) || decide (n = 12) || decide (n = 13) || decide (n = 32)
theorem blankN_byte (c : UInt8) : blankN (c.toNat : Int) = Asc.isBlank c := by
  have h : ∀ m : Nat, m < 256 → decide ((c.toNat : Int) = m) = (c == UInt8.ofNat m) := by
    intro m hm
    rw [Bool.eq_iff_iff]
    simp only [decide_eq_true_eq, beq_iff_eq]
    constructor
    · intro e
      apply UInt8.toNat_inj.1
      simp
      omega
    · intro e
      rw [e]
      simp
      omega
  unfold blankN Asc.isBlank
  have h9 := h 9 (by omega); have h10 := h 10 (by omega); have h12 := h 12 (by omega); have h13 := h 13 (by omega); have h32 := h 32 (by omega)
  simp only [Int.cast_ofNat_Int] at h9 h10 h12 h13 h32
  rw [h9, h10, h12, h13, h32]
  rfl
set_option maxHeartbeats 400000 in
theorem IsBlank_n (n : Int) (w : World) :
    Calls Tryz.prog 43 #[.int .u8 n] w fun e w' => e = .returned (.bool (blankN n)) ∧ w' = w := by
  by_cases h9 : n = 9
  · subst h9
    go_enter Tryz.func43, Tryz.ntmps43
    go_wp2
    go_ret
    exact ⟨rfl, rfl⟩
  by_cases h10 : n = 10
  · subst h10
    go_enter Tryz.func43, Tryz.ntmps43
    go_wp2
    go_ret
    exact ⟨rfl, rfl⟩
  by_cases h12 : n = 12
  · subst h12
    go_enter Tryz.func43, Tryz.ntmps43
    go_wp2
    go_ret
    exact ⟨rfl, rfl⟩
  by_cases h13 : n = 13
  · subst h13
    go_enter Tryz.func43, Tryz.ntmps43
    go_wp2
    go_ret
    exact ⟨rfl, rfl⟩
  by_cases h32 : n = 32
  · subst h32
    go_enter Tryz.func43, Tryz.ntmps43
    go_wp2
    go_ret
    exact ⟨rfl, rfl⟩
  have hf : blankN n = false := by simp [blankN, h9, h10, h12, h13, h32]
  rw [hf]
  go_enter Tryz.func43, Tryz.ntmps43
  go_wp2
  go_ret
  exact ⟨rfl, rfl⟩
def digN (n : Int) : Bool := decide (48 ≤ n ∧ n ≤ 57)
def letN (n : Int) : Bool := decide ((65 ≤ n ∧ n ≤ 90) ∨ (97 ≤ n ∧ n ≤ 122))
theorem digN_yes {n : Int} (h : 48 ≤ n) (h2 : n ≤ 57) : digN n = true := decide_eq_true ⟨h, h2⟩
theorem digN_no {n : Int} (h : n < 48 ∨ 57 < n) : digN n = false := decide_eq_false (by omega)
theorem letN_yes {n : Int} (h : (65 ≤ n ∧ n ≤ 90) ∨ (97 ≤ n ∧ n ≤ 122)) : letN n = true := decide_eq_true h
theorem letN_no {n : Int} (h : ¬ ((65 ≤ n ∧ n ≤ 90) ∨ (97 ≤ n ∧ n ≤ 122))) : letN n = false := decide_eq_false h
set_option maxHeartbeats 400000 in
theorem IsDigit_n (n : Int) (w : World) :
    Calls Tryz.prog 77 #[.int .u8 n] w fun e w' => e = .returned (.bool (digN n)) ∧ w' = w := by
  rcases (show n < 48 ∨ (48 ≤ n ∧ n ≤ 57) ∨ 57 < n from by omega) with h | ⟨h, h2⟩ | h
  · rw [digN_no (.inl h)]
    go_enter Tryz.func77, Tryz.ntmps77
    go_wp2
    go_ret
    exact ⟨ret_bool (by first | rfl | (simp <;> omega)), rfl⟩
  · rw [digN_yes h h2]
    go_enter Tryz.func77, Tryz.ntmps77
    go_wp2
    go_ret
    exact ⟨ret_bool (by first | rfl | (simp <;> omega)), rfl⟩
  · rw [digN_no (.inr h)]
    have h3 : 48 ≤ n := by omega
    go_enter Tryz.func77, Tryz.ntmps77
    go_wp2
    go_ret
    exact ⟨ret_bool (by first | rfl | (simp <;> omega)), rfl⟩
set_option maxHeartbeats 400000 in
theorem RIsDigit_n (n : Int) (w : World) :
    Calls Tryz.prog 53 #[.int .u8 n] w fun e w' => e = .returned (.bool (digN n)) ∧ w' = w := by
  rcases (show n < 48 ∨ (48 ≤ n ∧ n ≤ 57) ∨ 57 < n from by omega) with h | ⟨h, h2⟩ | h
  · rw [digN_no (.inl h)]
    go_enter Tryz.func53, Tryz.ntmps53
    go_wp2
    go_ret
    exact ⟨ret_bool (by first | rfl | (simp <;> omega)), rfl⟩
  · rw [digN_yes h h2]
    go_enter Tryz.func53, Tryz.ntmps53
    go_wp2
    go_ret
    exact ⟨ret_bool (by first | rfl | (simp <;> omega)), rfl⟩
  · rw [digN_no (.inr h)]
    have h3 : 48 ≤ n := by omega
    go_enter Tryz.func53, Tryz.ntmps53
    go_wp2
    go_ret
    exact ⟨ret_bool (by first | rfl | (simp <;> omega)), rfl⟩
end Go.Proofs.YtnklbeldheocmaaGreatDoor
/- Slices of texts of the call's own. -/
namespace Go.Proofs.YtnklbeldheocmaaGreatDoor
open Go.RowKit
theorem info9 : (Tryz.prog.info? 9).map (fun i => (i.zero, i.size, i.bytes)) = some (some (.string ByteArray.empty), 1, 16) := by kernel_rfl
def strV (l : List UInt8) : Value := .string ⟨l.toArray⟩
theorem strV_data (s : ByteArray) : strV s.data.toList = .string s := by simp [strV]
theorem strV_cut (s : ByteArray) (f k : Nat) : strV ((s.data.toList.take k).drop f) = .string (s.extract f k) := by
  rw [← data_cut, strV_data]
theorem IsBlank_any (c : UInt8) (w : World) :
    Calls Tryz.prog 43 #[.int .u8 c.toNat] w fun e w' => e = .returned (.bool (Asc.isBlank c)) ∧ w' = w := by
  rw [← blankN_byte]
  exact IsBlank_n _ _
/-- The slice owns these texts, in memory from 'B' on. -/
def OwnsTexts (w : World) (B : Nat) (v : Value) (ts : List (List UInt8)) : Prop := w.ownsRow B 9 1 v ts.length (ts.map strV)
theorem OwnsTexts.nil (w : World) (B : Nat) : OwnsTexts w B (.slice none 0 0) [] := World.ownsRow_nil _ _ _ _
theorem OwnsTexts.of {w : World} {B : Nat} {v : Value} {ts us : List (List UInt8)} {y : List UInt8} {x : Value} (h : us = ts ++ [y]) (hx : strV y = x) (ho : w.ownsRow B 9 1 v (ts.length + 1) (ts.map strV ++ [x])) : OwnsTexts w B v us := by
  subst h; subst hx
  unfold OwnsTexts
  simpa using ho
end Go.Proofs.YtnklbeldheocmaaGreatDoor
/- Slices that read as texts; the reference's Texts. -/
namespace Go.Proofs.YtnklbeldheocmaaGreatDoor
open Go.RowKit
/-- The slice reads as these texts. -/
def ReadsTexts (w : World) (v : Value) (ts : List (List UInt8)) : Prop :=
  (∃ a c, v = .slice a 0 c ∧ ts = []) ∨ ∃ b o c, v = .slice (some ⟨b, o, none⟩) ts.length c ∧ ts.length ≤ c ∧ ∀ (j : Nat) t, ts[j]? = some t → w.cell? ⟨b, o + j, none⟩ = some (strV t)
theorem OwnsTexts.reads {w : World} {B : Nat} {v : Value} {ts : List (List UInt8)} (h : OwnsTexts w B v ts) : ReadsTexts w v ts := by
  rcases h.2 with ⟨rfl, h0⟩ | ⟨g, cap, cur, rfl, _, hg, hc, _, hcs, ht⟩
  · exact .inl ⟨_, _, rfl, List.eq_nil_of_length_eq_zero h0⟩
  · refine .inr ⟨g, 0, cap, rfl, hc, fun j t hj => ?_⟩
    have hlt : j < ts.length := (List.getElem?_eq_some_iff.1 hj).1
    have := World.ownsRow.cellAt (w := w) (base := B) (e := 9) (size := 1) (g := g) (cap := cap) (n := ts.length) (xs := ts.map strV) h j (by omega)
    rw [Nat.zero_add, this, List.getElem?_map, hj]
    rfl
end Go.Proofs.YtnklbeldheocmaaGreatDoor
/- The contract of the program's Hex. -/
namespace Go.Proofs.YtnklbeldheocmaaGreatDoor
open Go.RowKit
theorem size_data (b : ByteArray) : b.size = b.data.toList.length := Array.length_toList.symm
theorem ret_pair {a b c d : Value} (h : a = c) (h2 : b = d) : Ending.returned (.tuple #[a, b]) = .returned (.tuple #[c, d]) := by rw [h, h2]
set_option maxHeartbeats 400000 in
theorem lowerByte_n (n : Int) (w : World) (h0 : 0 ≤ n) (h1 : n ≤ 255) :
    Calls Tryz.prog 66 #[.int .u8 n] w fun e w' => e = .returned (.int .u8 (Asc.lowN n)) ∧ w' = w := by
  by_cases h : 65 ≤ n ∧ n ≤ 90
  · have HN : Hid (Asc.lowN n = n + 32) := by show _ = _; unfold Asc.lowN; rw [if_pos h]
    obtain ⟨ha, hb⟩ := h
    go_enter Tryz.func66, Tryz.ntmps66
    go_wp2
    go_ret
    exact ⟨ret_int (by rw [HN.out]; omega), rfl⟩
  · have HN : Hid (Asc.lowN n = n) := by show _ = _; unfold Asc.lowN; rw [if_neg h]
    by_cases ha : 65 ≤ n
    · have hb : ¬ n ≤ 90 := by omega
      clear h
      go_enter Tryz.func66, Tryz.ntmps66
      go_wp2
      go_ret
      exact ⟨ret_int HN.out.symm, rfl⟩
    · clear h
      go_enter Tryz.func66, Tryz.ntmps66
      go_wp2
      go_ret
      exact ⟨ret_int HN.out.symm, rfl⟩
theorem byte_bd (c : UInt8) : (0 : Int) ≤ (c.toNat : Int) ∧ (c.toNat : Int) ≤ 255 := by have := c.toNat_lt; omega
theorem lowerByte_any (c : UInt8) (w : World) :
    Calls Tryz.prog 66 #[.int .u8 c.toNat] w fun e w' => e = .returned (.int .u8 (Asc.lowerC c).toNat) ∧ w' = w := by
  rw [← Asc.lowN_byte]
  exact lowerByte_n _ _ (byte_bd c).1 (byte_bd c).2
theorem take_all (a : ByteArray) (k : Nat) (h : a.size ≤ k) : a.data.toList.take k = a.data.toList := List.take_of_length_le (by simpa using h)
theorem or_hex (n d : Int) (h0 : 0 ≤ n) (h1 : n ≤ 268435455) (h2 : 0 ≤ d) (h3 : d ≤ 15) : bits BinOp.or IntKind.u32 (n * 16) d = n * 16 + d := by
  obtain ⟨a, rfl⟩ := Int.eq_ofNat_of_zero_le h0
  obtain ⟨b, rfl⟩ := Int.eq_ofNat_of_zero_le h2
  rw [u32_or _ _ (by omega) (by omega) (by omega) (by omega)]
  have e : ((a : Int) * 16).toNat = 2 ^ 4 * a := by omega
  rw [e, Int.toNat_natCast, ← Nat.two_pow_add_eq_or_of_lt (show b < 2 ^ 4 by omega)]
  omega
end Go.Proofs.YtnklbeldheocmaaGreatDoor
/- The contract of the reference's Nibble. -/
namespace Go.Proofs.YtnklbeldheocmaaGreatDoor
open Go.RowKit
theorem empty_yes (s : ByteArray) (h : s.size = 0) : s.toList.isEmpty = true := by
  rw [ByteArray.toList_eq, List.isEmpty_iff, ← List.length_eq_zero_iff]
  exact h
theorem empty_no (s : ByteArray) (h : ¬ s.size = 0) : s.toList.isEmpty = false := by
  rw [ByteArray.toList_eq, Bool.eq_false_iff]
  intro e
  exact h (List.length_eq_zero_iff.2 (List.isEmpty_iff.1 e))
def nibV (n : Int) : Int := if Asc.hexOk n = true then Asc.hexV n else 16
theorem nib_yes (n : Int) (h : Asc.hexOk n = true) : nibV n = Asc.hexV n := if_pos h
theorem nib_no (n : Int) (h : Asc.hexOk n = false) : nibV n = 16 := by unfold nibV; rw [h]; rfl
end Go.Proofs.YtnklbeldheocmaaGreatDoor
/- Contracts of Split, the program's and the reference's. -/
namespace Go.Proofs.YtnklbeldheocmaaGreatDoor
open Go.RowKit
theorem byte_eq_yes {a b : UInt8} (h : a = b) : ((a.toNat : Int) == (b.toNat : Int)) = true := by rw [h]; simp
theorem byte_eq_no {a b : UInt8} (h : ¬ a = b) : ((a.toNat : Int) == (b.toNat : Int)) = false := by
  rw [beq_eq_false_iff_ne]
  intro e
  exact h (UInt8.toNat_inj.1 (by omega))
theorem cut_size (b : ByteArray) (f t : Nat) (h : t ≤ b.size) : (b.extract f t).size = t - f := by
  rw [size_data, data_cut, List.length_drop, List.length_take, ← size_data]
  omega
theorem cut_one (s : ByteArray) (k : Nat) (h : k < s.size) : (s.extract k (k + 1)).data.toList = [s[k]] := by
  rw [data_cut, List.take_succ_eq_append_getElem (show k < s.data.toList.length from by rw [← size_data]; exact h), List.drop_append_of_le_length (by rw [List.length_take, ← size_data]; omega), List.drop_eq_nil_of_le (by rw [List.length_take]; omega)]
  rfl
theorem sst_cut (s : ByteArray) (c : UInt8) (k : Nat) (h : k < s.size) (hb : s[k] = c) : Asc.sst c (s.data.toList.take (k + 1)) = ((Asc.sst c (s.data.toList.take k)).1 ++ [(Asc.sst c (s.data.toList.take k)).2], []) := by
  have e : Asc.sst c (s.data.toList.take (k + 1)) = Asc.sstep c (Asc.sst c (s.data.toList.take k)) s[k] := Asc.sst_next c s.data.toList k h
  rw [e, Asc.sstep, if_pos hb]
theorem sst_on (s : ByteArray) (c : UInt8) (k : Nat) (h : k < s.size) (hb : ¬ s[k] = c) : Asc.sst c (s.data.toList.take (k + 1)) = ((Asc.sst c (s.data.toList.take k)).1, (Asc.sst c (s.data.toList.take k)).2 ++ [s[k]]) := by
  have e : Asc.sst c (s.data.toList.take (k + 1)) = Asc.sstep c (Asc.sst c (s.data.toList.take k)) s[k] := Asc.sst_next c s.data.toList k h
  rw [e, Asc.sstep, if_neg hb]
theorem owns_first (w : World) : OwnsTexts (w.alloc (.cells #[.string ⟨#[]⟩] 9)) w.heap.size (.slice (some ⟨w.heap.size, 0, none⟩) 1 1) [[]] :=
  ⟨rfl, .inr ⟨w.heap.size, 1, #[.string ⟨#[]⟩], rfl, Nat.le_refl _, heap_alloc_new w _, Nat.le_refl _, by decide, rfl, rfl⟩⟩
/-- What the row holds at the loop's head: the parts that are whole, and n bytes of the one under way. -/
theorem last_cell (ts : List (List UInt8)) (t : List UInt8) : ((ts ++ [t]).map strV)[ts.length]? = some (.string (str t)) := by
  rw [List.map_append, List.getElem?_append_right (by simp)]
  simp [strV, str]
theorem last_set (ts : List (List UInt8)) (t u : List UInt8) : ((ts ++ [t]).map strV).set ts.length (.string (str u)) = (ts ++ [u]).map strV := by
  rw [List.map_append, List.set_append_right _ _ (by simp)]
  simp [strV, str]
theorem owns_same {W : World} {B g cap : Nat} {ts : List (List UInt8)} {t u : List UInt8} (h : W.ownsRow B 9 1 (.slice (some ⟨g, 0, none⟩) (ts ++ [t]).length cap) (ts ++ [t]).length ((ts ++ [u]).map strV)) : OwnsTexts W.drew B (.slice (some ⟨g, 0, none⟩) (ts ++ [t]).length cap) (ts ++ [u]) := by
  unfold OwnsTexts
  rw [show (ts ++ [u]).length = (ts ++ [t]).length from by simp]
  exact h.drew
set_option maxHeartbeats 1000000 in
theorem RSplit_any (s : ByteArray) (c : UInt8) (w : World) (hs : s.size ≤ 1000000000) :
    Calls Tryz.prog 42 #[.string s, .int .u8 c.toNat] w fun e w' => ∃ v, e = .returned v ∧ OwnsTexts w' w.heap.size v (Asc.split s.data.toList c) ∧ Below w.heap.size w w' := by
  obtain ⟨i0, hi, hz0, hz1, hz2⟩ := info_parts info9
  go_enter Tryz.func42, Tryz.ntmps42
  go_wp2
  go_loopw [5, 6] (fun v i wr => ∃ (k : Nat) (ts : List (List UInt8)) (t : List UInt8), k ≤ s.size ∧ i = .int .i64 k ∧ ts.length ≤ k ∧ t.length ≤ k ∧ Hid (Asc.sst c (s.data.toList.take k) = (ts, t)) ∧ OwnsTexts wr w.heap.size v (ts ++ [t]) ∧ Below w.heap.size w wr) (fun _ i _ => s.size - (intOf i).toNat)
  case atStart => exact ⟨0, [], [], Nat.zero_le _, rfl, Nat.le_refl _, Nat.le_refl _, rfl, owns_first w, (Below.refl _ _).alloc (Nat.le_refl _) _⟩
  case round =>
    obtain ⟨k, ts, t, hk, rfl, htk, htl, HR, hown, hbel⟩ := hrel
    have hlen : (ts ++ [t]).length = ts.length + 1 := by simp
    by_cases hlt : k < s.size
    · by_cases hb : s[k] = c
      · have hq := byte_eq_yes hb
        have HN : Hid (Asc.sst c (s.data.toList.take (k + 1)) = (ts ++ [t], [])) := by
          show _ = _
          rw [sst_cut s c k hlt hb, HR.out]
        have HL : Hid ((ts ++ [t]).length = ts.length + 1) := hlen
        have hl2 : (ts ++ [t]).length ≤ 1000000001 := by omega
        clear hb hlen
        go_wp2_with (first
          | (at_builtin; refine wpList_append_own _ rfl _ _ 68 rfl w.heap.size 9 i0 (.string ByteArray.empty) 1 16 Tryz.underlying68 hi hz0 hz1 hz2 rfl (by decide) _ _ _ rfl (World.ownsRow.alloc hown _) ⟨wr.heap.size, 0, none⟩ 1 1 [.string ⟨#[]⟩] rfl rfl (cell_one_new _ _ _) (fun x hx => by simp at hx; subst hx; rfl) (by unfold maxLen; omega) (by omega) (by have := hbel.size; simp; omega) ?_; intro v' w3 hown' hgrow3 hnil3))
        go_roundw
        case rel => exact ⟨k + 1, ts ++ [t], [], by omega, by go_num, by have := HL.out; omega, Nat.zero_le _, HN, OwnsTexts.of rfl rfl hown', (hbel.alloc hbel.size _).grown hgrow3 (by have := hbel.size; simp; omega) (fun q hq => (World.ownsRow.lt hown q hq).1)⟩
        case measure => simp [intOf]; omega
      · have hq := byte_eq_no hb
        obtain ⟨g, cap, rfl⟩ := Joins.ownsRow_form hown (by omega)
        have hcell : wr.cell? ⟨g, ts.length, none⟩ = some (.string (str t)) := (World.ownsRow.cellAt (w := wr) hown ts.length (by omega)).trans (last_cell ts t)
        have hfr := World.ownsRow.frozenAt (w := wr) hown ts.length
        have hz : (str t ++ s.extract k (k + 1)) = str (t ++ [s[k]]) := str_eq (by rw [ByteArray.data_append, Array.toList_append, str_data, cut_one s k hlt])
        have hst := World.ownsRow.stored (w := wr) hown ts.length (.string (str (t ++ [s[k]])))
        rw [last_set] at hst
        have HS := show Hid _ from hst
        have HZ : Hid (str t ++ s.extract k (k + 1) = str (t ++ [s[k]])) := hz
        have HN : Hid (Asc.sst c (s.data.toList.take (k + 1)) = (ts, t ++ [s[k]])) := by
          show _ = _
          rw [sst_on s c k hlt hb, HR.out]
        have hts : (str t).size ≤ 1000000000 := by rw [str_size]; omega
        have hcz : (s.extract k (k + 1)).size ≤ 1 := by rw [cut_size s k (k + 1) (by omega)]; omega
        have hl1 : ((ts ++ [t]).length : Int) - 1 = (ts.length : Int) := by omega
        have HG : Hid (w.heap.size ≤ g) := (World.ownsRow.lt hown g rfl).1
        have HL : Hid ((ts ++ [t]).length = ts.length + 1) := hlen
        clear hlen
        clear hb hst hz hown
        go_wp2
        go_region
        rw [HZ.out]
        go_wp2
        go_roundw
        case rel => exact ⟨k + 1, ts, t ++ [s[k]], by omega, by go_num, by omega, by rw [List.length_append]; simp; omega, HN, owns_same HS.out.1, (hbel.setCell HG.out _).drew⟩
        case measure => simp [intOf]; omega
    · have HN : Hid (Asc.split s.data.toList c = ts ++ [t]) := by
        have h1 := HR.out
        rw [take_all s k (by omega)] at h1
        show _ = _
        rw [Asc.split, h1]
      go_wp2
      go_ret
      exact ⟨_, rfl, by rw [HN.out]; exact hown, hbel⟩
end Go.Proofs.YtnklbeldheocmaaGreatDoor
