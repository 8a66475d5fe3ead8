/- Texts laid as one. -/
import Derived.Test.YtnklbeldheocmaaDoorRows
import Derived.WalkKit
import Derived.ProofKit
import Derived.OpenShut
import Derived.WalkSpells
import Derived.WalkSmall
import Derived.Below
import Derived.BigQuiet
import Derived.BigCall
import Derived.Deep.QuietTactic
import Derived.Laws.IdiomStrings
import Derived.Laws.OwnMore
import Derived.Lib.OthersKept
import Derived.Test.YtnklbeldheocmaaDoorKMath
import Derived.Maps.AppendAt
import Derived.Laws.BitsAllLaws
import Derived.Lib.SmallJoins
import Derived.RegionTactic
/- What the contracts of every seat share: texts as lists of bytes, rows of bytes of the call's own, worlds that only grow. -/
namespace Go.Proofs.YtnklbeldheocmaaDoor
open Go.RowKit
theorem ret_bool {a b : Bool} (h : a = b) : Ending.returned (.bool a) = .returned (.bool b) := by rw [h]
theorem ret_int {k : IntKind} {a b : Int} (h : a = b) : Ending.returned (.int k a) = .returned (.int k b) := by rw [h]
theorem bel {w W W' : World} (h : Below w.heap.size w W) (h2 : Below W.heap.size W W') : Below w.heap.size w W' := h.trans (h2.mono h.size)
/-- The text of these bytes. -/
def str (l : List UInt8) : ByteArray := ⟨l.toArray⟩
theorem str_size (l : List UInt8) : (str l).size = l.length := by simp [str, ByteArray.size]
theorem str_data (l : List UInt8) : (str l).data.toList = l := by simp [str]
theorem str_list (a : List UInt8) : (str a).toList = a := by rw [ByteArray.toList_eq, str_data]
theorem str_eq {b : ByteArray} {l : List UInt8} (h : b.data.toList = l) : b = str l := by
  subst h
  cases b
  simp [str]
theorem str_self (s : ByteArray) : str s.data.toList = s := (str_eq rfl).symm
theorem ret_text {b : ByteArray} {l : List UInt8} (h : b.data.toList = l) : Ending.returned (.string b) = .returned (.string (str l)) := by rw [str_eq h]
theorem str_beq_yes {a b : List UInt8} (h : a = b) : ((str a).toList == (str b).toList) = true := by rw [h]; simp
theorem str_beq_no {a b : List UInt8} (h : ¬ a = b) : ((str a).toList == (str b).toList) = false := by
  rw [str_list, str_list]; simpa using h
theorem data_cut (s : ByteArray) (f k : Nat) : (s.extract f k).data.toList = (s.data.toList.take k).drop f := by
  simp [ByteArray.data_extract, List.extract_eq_take_drop, List.drop_take]
theorem str_from (l : List UInt8) (k : Nat) : (str l).extract k l.length = str (l.drop k) := by
  apply str_eq
  rw [data_cut, str_data, List.take_length]
theorem str_to (l : List UInt8) (k : Nat) : (str l).extract 0 k = str (l.take k) := by
  apply str_eq
  rw [data_cut, str_data, List.drop_zero]
theorem i64_bd {n : Int} (h : (Lit.int .i64 n).wf = true) : -9223372036854775808 ≤ n ∧ n ≤ 9223372036854775807 := bounds_i64 h
def cellsB (l : List UInt8) : List Value := l.map fun c => .int .u8 c.toNat
theorem cellsB_byteCells (l : List UInt8) : cellsB l = Lib.byteCells l := rfl
def OwnsBytes (w : World) (B : Nat) (v : Value) (l : List UInt8) : Prop := w.ownsRow B 5 1 v l.length (cellsB l)
theorem OwnsBytes.nil (w : World) (B : Nat) : OwnsBytes w B (.slice none 0 0) [] := World.ownsRow_nil _ _ _ _
theorem infoByte : (Tryd.prog.info? 5).map (fun i => (i.zero, i.size, i.bytes)) = some (some (.int .u8 0), 1, 1) := by kernel_rfl
/-- A row of bytes of the call's own, made a text. -/
theorem conv_owned {W : World} {B : Nat} {v : Value} {l : List UInt8} (h : OwnsBytes W B v l) :
    (convert 91 9 v).run Tryd.prog W = .ok (.string (str l)) W := by
  have h0 := h
  rcases h.2 with ⟨rfl, hz⟩ | ⟨g, cap, cur, rfl, _, hg, hc, _, hcs, ht⟩
  · have : l = [] := List.eq_nil_of_length_eq_zero hz
    subst this
    exact run_convert_bytes_nil (P := Tryd.prog) W 91 5 Tryd.underlying91 Tryd.underlying5 0 0 9 Tryd.underlying9
  · refine run_convert_bytes_back (P := Tryd.prog) W 91 9 5 ⟨g, 0, none⟩ cap l Tryd.underlying91 Tryd.underlying5 Tryd.underlying9 (fun j hj => ?_)
    have := World.ownsRow.cellAt (w := W) (base := B) (e := 5) (size := 1) (g := g) (cap := cap) (n := l.length) (xs := cellsB l) h0 j (by omega)
    rw [show (⟨g, 0, none⟩ : Addr).add j = ⟨g, j, none⟩ from by unfold Addr.add; simp; omega, this]
    unfold cellsB
    rw [List.getElem?_map, List.getElem?_eq_getElem hj]
    rfl
def longB (s : ByteArray) : Bool := decide (3000 < s.size)
theorem long_yes {s : ByteArray} (h : 3000 < s.size) : longB s = true := decide_eq_true h
theorem long_no {s : ByteArray} (h : ¬ 3000 < s.size) : longB s = false := decide_eq_false h
end Go.Proofs.YtnklbeldheocmaaDoor
/- Contracts of the program's and the reference's small functions on bytes. -/
namespace Go.Proofs.YtnklbeldheocmaaDoor
open Go.RowKit
def blankN (n : Int) : Bool := decide (n = 9) || decide (n = 10) || decide (n = 12) || decide (n = 13) || decide (n = 32)
theorem blankN_byte (c : UInt8) : blankN (c.toNat : Int) = Asc.isBlank c := by
  have h : ∀ m : Nat, m < 256 → decide ((c.toNat : Int) = m) = (c == UInt8.ofNat m) := by
    intro m hm
    rw [Bool.eq_iff_iff]
    simp only [decide_eq_true_eq, beq_iff_eq]
    constructor
    · intro e
      apply UInt8.toNat_inj.1
      simp
      omega
    · intro e
      rw [e]
      simp
      omega
  unfold blankN Asc.isBlank
  have h9 := h 9 (by omega); have h10 := h 10 (by omega); have h12 := h 12 (by omega); have h13 := h 13 (by omega); have h32 := h 32 (by omega)
  simp only [Int.cast_ofNat_Int] at h9 h10 h12 h13 h32
  rw [h9, h10, h12, h13, h32]
  rfl
set_option maxHeartbeats 400000 in
theorem IsBlank_n (n : Int) (w : World) :
    Calls Tryd.prog 39 #[.int .u8 n] w fun e w' => e = .returned (.bool (blankN n)) ∧ w' = w := by
  by_cases h9 : n = 9
  · subst h9
    go_enter Tryd.func39, Tryd.ntmps39
    go_wp2
    go_ret
    exact ⟨rfl, rfl⟩
  by_cases h10 : n = 10
  · subst h10
    go_enter Tryd.func39, Tryd.ntmps39
    go_wp2
    go_ret
    exact ⟨rfl, rfl⟩
  by_cases h12 : n = 12
  · subst h12
    go_enter Tryd.func39, Tryd.ntmps39
    go_wp2
    go_ret
    exact ⟨rfl, rfl⟩
  by_cases h13 : n = 13
  · subst h13
    go_enter Tryd.func39, Tryd.ntmps39
    go_wp2
    go_ret
    exact ⟨rfl, rfl⟩
  by_cases h32 : n = 32
  · subst h32
    go_enter Tryd.func39, Tryd.ntmps39
    go_wp2
    go_ret
    exact ⟨rfl, rfl⟩
  have hf : blankN n = false := by simp [blankN, h9, h10, h12, h13, h32]
  rw [hf]
  go_enter Tryd.func39, Tryd.ntmps39
  go_wp2
  go_ret
  exact ⟨rfl, rfl⟩
set_option maxHeartbeats 400000 in
theorem RIsBlank_n (n : Int) (w : World) :
    Calls Tryd.prog 45 #[.int .u8 n] w fun e w' => e = .returned (.bool (blankN n)) ∧ w' = w := by
  rcases (show n = 9 ∨ n = 10 ∨ n = 12 ∨ n = 13 ∨ n = 32 ∨ (n ≠ 9 ∧ n ≠ 10 ∧ n ≠ 12 ∧ n ≠ 13 ∧ n ≠ 32) from by omega) with rfl | rfl | rfl | rfl | rfl | ⟨h9, h10, h12, h13, h32⟩
  case inr.inr.inr.inr.inr =>
    have hf : blankN n = false := by simp [blankN, h9, h10, h12, h13, h32]
    rw [hf]
    go_enter Tryd.func45, Tryd.ntmps45
    go_wp2
    go_ret
    exact ⟨ret_bool (by first | rfl | (simp <;> omega)), rfl⟩
  all_goals
    go_enter Tryd.func45, Tryd.ntmps45
    go_wp2
    go_ret
    exact ⟨ret_bool (by first | rfl | (simp <;> omega)), rfl⟩
def digN (n : Int) : Bool := decide (48 ≤ n ∧ n ≤ 57)
def letN (n : Int) : Bool := decide ((65 ≤ n ∧ n ≤ 90) ∨ (97 ≤ n ∧ n ≤ 122))
theorem digN_yes {n : Int} (h : 48 ≤ n) (h2 : n ≤ 57) : digN n = true := decide_eq_true ⟨h, h2⟩
theorem digN_no {n : Int} (h : n < 48 ∨ 57 < n) : digN n = false := decide_eq_false (by omega)
theorem letN_yes {n : Int} (h : (65 ≤ n ∧ n ≤ 90) ∨ (97 ≤ n ∧ n ≤ 122)) : letN n = true := decide_eq_true h
theorem letN_no {n : Int} (h : ¬ ((65 ≤ n ∧ n ≤ 90) ∨ (97 ≤ n ∧ n ≤ 122))) : letN n = false := decide_eq_false h
set_option maxHeartbeats 400000 in
theorem IsDigit_n (n : Int) (w : World) :
    Calls Tryd.prog 85 #[.int .u8 n] w fun e w' => e = .returned (.bool (digN n)) ∧ w' = w := by
  rcases (show n < 48 ∨ (48 ≤ n ∧ n ≤ 57) ∨ 57 < n from by omega) with h | ⟨h, h2⟩ | h
  · rw [digN_no (.inl h)]
    go_enter Tryd.func85, Tryd.ntmps85
    go_wp2
    go_ret
    exact ⟨ret_bool (by first | rfl | (simp <;> omega)), rfl⟩
  · rw [digN_yes h h2]
    go_enter Tryd.func85, Tryd.ntmps85
    go_wp2
    go_ret
    exact ⟨ret_bool (by first | rfl | (simp <;> omega)), rfl⟩
  · rw [digN_no (.inr h)]
    have h3 : 48 ≤ n := by omega
    go_enter Tryd.func85, Tryd.ntmps85
    go_wp2
    go_ret
    exact ⟨ret_bool (by first | rfl | (simp <;> omega)), rfl⟩
set_option maxHeartbeats 400000 in
theorem RIsDigit_n (n : Int) (w : World) :
    Calls Tryd.prog 30 #[.int .u8 n] w fun e w' => e = .returned (.bool (digN n)) ∧ w' = w := by
  rcases (show n < 48 ∨ (48 ≤ n ∧ n ≤ 57) ∨ 57 < n from by omega) with h | ⟨h, h2⟩ | h
  · rw [digN_no (.inl h)]
    go_enter Tryd.func30, Tryd.ntmps30
    go_wp2
    go_ret
    exact ⟨ret_bool (by first | rfl | (simp <;> omega)), rfl⟩
  · rw [digN_yes h h2]
    go_enter Tryd.func30, Tryd.ntmps30
    go_wp2
    go_ret
    exact ⟨ret_bool (by first | rfl | (simp <;> omega)), rfl⟩
  · rw [digN_no (.inr h)]
    have h3 : 48 ≤ n := by omega
    go_enter Tryd.func30, Tryd.ntmps30
    go_wp2
    go_ret
    exact ⟨ret_bool (by first | rfl | (simp <;> omega)), rfl⟩
end Go.Proofs.YtnklbeldheocmaaDoor
/- Slices of texts of the call's own. -/
namespace Go.Proofs.YtnklbeldheocmaaDoor
open Go.RowKit
theorem info9 : (Tryd.prog.info? 9).map (fun i => (i.zero, i.size, i.bytes)) = some (some (.string ByteArray.empty), 1, 16) := by kernel_rfl
def strV (l : List UInt8) : Value := .string ⟨l.toArray⟩
theorem strV_data (s : ByteArray) : strV s.data.toList = .string s := by simp [strV]
theorem strV_cut (s : ByteArray) (f k : Nat) : strV ((s.data.toList.take k).drop f) = .string (s.extract f k) := by
  rw [← data_cut, strV_data]
theorem IsBlank_any (c : UInt8) (w : World) :
    Calls Tryd.prog 39 #[.int .u8 c.toNat] w fun e w' => e = .returned (.bool (Asc.isBlank c)) ∧ w' = w := by
  rw [← blankN_byte]
  exact IsBlank_n _ _
/-- The slice owns these texts, in memory from 'B' on. -/
def OwnsTexts (w : World) (B : Nat) (v : Value) (ts : List (List UInt8)) : Prop := w.ownsRow B 9 1 v ts.length (ts.map strV)
theorem OwnsTexts.nil (w : World) (B : Nat) : OwnsTexts w B (.slice none 0 0) [] := World.ownsRow_nil _ _ _ _
theorem OwnsTexts.of {w : World} {B : Nat} {v : Value} {ts us : List (List UInt8)} {y : List UInt8} {x : Value} (h : us = ts ++ [y]) (hx : strV y = x) (ho : w.ownsRow B 9 1 v (ts.length + 1) (ts.map strV ++ [x])) : OwnsTexts w B v us := by
  subst h; subst hx
  unfold OwnsTexts
  simpa using ho
end Go.Proofs.YtnklbeldheocmaaDoor
/- Slices that read as texts; the reference's Texts. -/
namespace Go.Proofs.YtnklbeldheocmaaDoor
open Go.RowKit
/-- The slice reads as these texts. -/
def ReadsTexts (w : World) (v : Value) (ts : List (List UInt8)) : Prop :=
  (∃ a c, v = .slice a 0 c ∧ ts = []) ∨ ∃ b o c, v = .slice (some ⟨b, o, none⟩) ts.length c ∧ ts.length ≤ c ∧ ∀ (j : Nat) t, ts[j]? = some t → w.cell? ⟨b, o + j, none⟩ = some (strV t)
theorem OwnsTexts.reads {w : World} {B : Nat} {v : Value} {ts : List (List UInt8)} (h : OwnsTexts w B v ts) : ReadsTexts w v ts := by
  rcases h.2 with ⟨rfl, h0⟩ | ⟨g, cap, cur, rfl, _, hg, hc, _, hcs, ht⟩
  · exact .inl ⟨_, _, rfl, List.eq_nil_of_length_eq_zero h0⟩
  · refine .inr ⟨g, 0, cap, rfl, hc, fun j t hj => ?_⟩
    have hlt : j < ts.length := (List.getElem?_eq_some_iff.1 hj).1
    have := World.ownsRow.cellAt (w := w) (base := B) (e := 9) (size := 1) (g := g) (cap := cap) (n := ts.length) (xs := ts.map strV) h j (by omega)
    rw [Nat.zero_add, this, List.getElem?_map, hj]
    rfl
end Go.Proofs.YtnklbeldheocmaaDoor
/- The contract of the program's Hex. -/
namespace Go.Proofs.YtnklbeldheocmaaDoor
open Go.RowKit
theorem size_data (b : ByteArray) : b.size = b.data.toList.length := Array.length_toList.symm
theorem ret_pair {a b c d : Value} (h : a = c) (h2 : b = d) : Ending.returned (.tuple #[a, b]) = .returned (.tuple #[c, d]) := by rw [h, h2]
theorem byte_bd (c : UInt8) : (0 : Int) ≤ (c.toNat : Int) ∧ (c.toNat : Int) ≤ 255 := by have := c.toNat_lt; omega
theorem take_all (a : ByteArray) (k : Nat) (h : a.size ≤ k) : a.data.toList.take k = a.data.toList := List.take_of_length_le (by simpa using h)
theorem or_hex (n d : Int) (h0 : 0 ≤ n) (h1 : n ≤ 268435455) (h2 : 0 ≤ d) (h3 : d ≤ 15) : bits BinOp.or IntKind.u32 (n * 16) d = n * 16 + d := by
  obtain ⟨a, rfl⟩ := Int.eq_ofNat_of_zero_le h0
  obtain ⟨b, rfl⟩ := Int.eq_ofNat_of_zero_le h2
  rw [u32_or _ _ (by omega) (by omega) (by omega) (by omega)]
  have e : ((a : Int) * 16).toNat = 2 ^ 4 * a := by omega
  rw [e, Int.toNat_natCast, ← Nat.two_pow_add_eq_or_of_lt (show b < 2 ^ 4 by omega)]
  omega
end Go.Proofs.YtnklbeldheocmaaDoor
/- The contract of the reference's Nibble. -/
namespace Go.Proofs.YtnklbeldheocmaaDoor
open Go.RowKit
theorem empty_yes (s : ByteArray) (h : s.size = 0) : s.toList.isEmpty = true := by
  rw [ByteArray.toList_eq, List.isEmpty_iff, ← List.length_eq_zero_iff]
  exact h
theorem empty_no (s : ByteArray) (h : ¬ s.size = 0) : s.toList.isEmpty = false := by
  rw [ByteArray.toList_eq, Bool.eq_false_iff]
  intro e
  exact h (List.length_eq_zero_iff.2 (List.isEmpty_iff.1 e))
def nibV (n : Int) : Int := if Asc.hexOk n = true then Asc.hexV n else 16
theorem nib_yes (n : Int) (h : Asc.hexOk n = true) : nibV n = Asc.hexV n := if_pos h
theorem nib_no (n : Int) (h : Asc.hexOk n = false) : nibV n = 16 := by unfold nibV; rw [h]; rfl
end Go.Proofs.YtnklbeldheocmaaDoor
/- Contracts of Split, the program's and the reference's. -/
namespace Go.Proofs.YtnklbeldheocmaaDoor
open Go.RowKit
theorem byte_eq_yes {a b : UInt8} (h : a = b) : ((a.toNat : Int) == (b.toNat : Int)) = true := by rw [h]; simp
theorem byte_eq_no {a b : UInt8} (h : ¬ a = b) : ((a.toNat : Int) == (b.toNat : Int)) = false := by
  rw [beq_eq_false_iff_ne]
  intro e
  exact h (UInt8.toNat_inj.1 (by omega))
theorem cut_size (b : ByteArray) (f t : Nat) (h : t ≤ b.size) : (b.extract f t).size = t - f := by
  rw [size_data, data_cut, List.length_drop, List.length_take, ← size_data]
  omega
theorem cut_one (s : ByteArray) (k : Nat) (h : k < s.size) : (s.extract k (k + 1)).data.toList = [s[k]] := by
  rw [data_cut, List.take_succ_eq_append_getElem (show k < s.data.toList.length from by rw [← size_data]; exact h), List.drop_append_of_le_length (by rw [List.length_take, ← size_data]; omega), List.drop_eq_nil_of_le (by rw [List.length_take]; omega)]
  rfl
theorem sst_cut (s : ByteArray) (c : UInt8) (k : Nat) (h : k < s.size) (hb : s[k] = c) : Asc.sst c (s.data.toList.take (k + 1)) = ((Asc.sst c (s.data.toList.take k)).1 ++ [(Asc.sst c (s.data.toList.take k)).2], []) := by
  have e : Asc.sst c (s.data.toList.take (k + 1)) = Asc.sstep c (Asc.sst c (s.data.toList.take k)) s[k] := Asc.sst_next c s.data.toList k h
  rw [e, Asc.sstep, if_pos hb]
theorem sst_on (s : ByteArray) (c : UInt8) (k : Nat) (h : k < s.size) (hb : ¬ s[k] = c) : Asc.sst c (s.data.toList.take (k + 1)) = ((Asc.sst c (s.data.toList.take k)).1, (Asc.sst c (s.data.toList.take k)).2 ++ [s[k]]) := by
  have e : Asc.sst c (s.data.toList.take (k + 1)) = Asc.sstep c (Asc.sst c (s.data.toList.take k)) s[k] := Asc.sst_next c s.data.toList k h
  rw [e, Asc.sstep, if_neg hb]
theorem owns_first (w : World) : OwnsTexts (w.alloc (.cells #[.string ⟨#[]⟩] 9)) w.heap.size (.slice (some ⟨w.heap.size, 0, none⟩) 1 1) [[]] :=
  ⟨rfl, .inr ⟨w.heap.size, 1, #[.string ⟨#[]⟩], rfl, Nat.le_refl _, heap_alloc_new w _, Nat.le_refl _, by decide, rfl, rfl⟩⟩
/-- What the row holds at the loop's head: the parts that are whole, and n bytes of the one under way. -/
theorem last_cell (ts : List (List UInt8)) (t : List UInt8) : ((ts ++ [t]).map strV)[ts.length]? = some (.string (str t)) := by
  rw [List.map_append, List.getElem?_append_right (by simp)]
  simp [strV, str]
theorem last_set (ts : List (List UInt8)) (t u : List UInt8) : ((ts ++ [t]).map strV).set ts.length (.string (str u)) = (ts ++ [u]).map strV := by
  rw [List.map_append, List.set_append_right _ _ (by simp)]
  simp [strV, str]
theorem owns_same {W : World} {B g cap : Nat} {ts : List (List UInt8)} {t u : List UInt8} (h : W.ownsRow B 9 1 (.slice (some ⟨g, 0, none⟩) (ts ++ [t]).length cap) (ts ++ [t]).length ((ts ++ [u]).map strV)) : OwnsTexts W.drew B (.slice (some ⟨g, 0, none⟩) (ts ++ [t]).length cap) (ts ++ [u]) := by
  unfold OwnsTexts
  rw [show (ts ++ [u]).length = (ts ++ [t]).length from by simp]
  exact h.drew
end Go.Proofs.YtnklbeldheocmaaDoor
