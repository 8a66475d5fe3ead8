/- Texts laid as one. -/
import Derived.Test.YtoiedadfpbbdgaaKRfGK
import Derived.Test.YtoiedadfpbbdgaaKTkIJ
import Derived.Deep.RegionHeldLaw
/- Contracts of refs.encoded and refs.Encode. -/
set_option linter.unusedVariables false
set_option linter.unusedSimpArgs false
namespace Go.Proofs.Ytoiedadfpbbdgaa
open Go.RowKit
def oneV (r : List UInt8 × Nat) : Value := .tuple #[.string (str r.1), .int .i64 r.2]
theorem byte_ne {c : UInt8} {k : Nat} (hk : k < 256) (h : c ≠ UInt8.ofNat k) : ¬ (c.toNat : Int) = (k : Int) := by
  intro e
  apply h
  apply UInt8.toNat_inj.1
  have : (UInt8.ofNat k).toNat = k := by rw [UInt8.toNat_ofNat']; omega
  omega
def EncAt (a : Bool) (l : List UInt8) (w : World) (x : Value) (wr : World) : Prop :=
  ∃ r acc : List UInt8, x = .string (str r) ∧ acc.length + 6 * r.length ≤ 6 * l.length ∧ Lib.IsBuilderF 92 5 w.heap.size w.heap.size (Lib.byteCells acc) wr ∧ Below w.heap.size w wr ∧ Hid (acc ++ Rf.enc a r = Rf.enc a l)
end Go.Proofs.Ytoiedadfpbbdgaa
/- The contracts of token.startTag and token.Tag. -/
set_option linter.unusedVariables false
set_option linter.unusedSimpArgs false
namespace Go.Proofs.Ytoiedadfpbbdgaa
open Go.RowKit
/-- A builder at b with these bytes. -/
def Bd (b : Nat) (acc : List UInt8) (w : World) : Prop := Lib.IsBuilderF 92 5 b b (Lib.byteCells acc) w
theorem Bd.fresh (w : World) : Bd w.heap.size [] (w.alloc (.cells #[.pointer none, .slice none 0 0] 92)) := Lib.IsBuilderF.of (Lib.fresh_isBuilder 92 5 w)
theorem Bd.below {b : Nat} {acc : List UInt8} {w w' : World} (h : Bd b acc w) (hb : Below w.heap.size w w') : Bd b acc w' := by
  rcases h with h | h
  · exact .inl (builder_below h hb)
  · exact .inr (builder_below h hb)
theorem Bd.lt {b : Nat} {acc : List UInt8} {w : World} (h : Bd b acc w) : b < w.heap.size := by
  rcases h with ⟨_, v, hb, _⟩ | ⟨_, v, hb, _⟩
  · exact (Array.getElem?_eq_some_iff.1 hb).1
  · exact (Array.getElem?_eq_some_iff.1 hb).1
theorem strCells_str (s : List UInt8) : Lib.strCells (str s) = Lib.byteCells s := by
  rw [← str_data s]
  rfl
theorem WS_any {b : Nat} {acc : List UInt8} {w : World} (s : List UInt8) (h : Bd b acc w) (hl : acc.length + s.length ≤ 10000000000) :
    Calls Try.prog 82 #[.pointer (some ⟨b, 0, none⟩), .string (str s)] w fun e w' => (∃ u, e = .returned u) ∧ Bd b (acc ++ s) w' ∧ Below b w w' ∧ Lib.OthersKept 5 (some b) w w' := by
  refine (WriteString_k b b (Lib.byteCells acc) (str s) w h (by rw [Lib.byteCells_length, str_size]; omega) (Nat.le_of_lt h.lt)).mono ?_
  rintro e w1 ⟨rfl, g1, b1, k1⟩
  refine ⟨⟨_, rfl⟩, ?_, b1, k1⟩
  rw [strCells_str, ← Lib.byteCells_append] at g1
  exact .inr g1
theorem String_any12 {b : Nat} {acc : List UInt8} {w : World} (h : Bd b acc w) (hl : acc.length ≤ 10000000000) :
    Calls Try.prog 67 #[.pointer (some ⟨b, 0, none⟩)] w fun e w' => e = .returned (.string (str acc)) ∧ Below b w w' := by
  refine (Try.Builder_String_any_k b b acc w h (Nat.le_of_lt h.lt)).mono ?_
  rintro e w2 ⟨rfl, _, b2, _⟩
  exact ⟨rfl, b2⟩
/-- What startTag has written ahead of attribute j. -/
def tagTo (k : Tk.Tok) (j : Nat) : List UInt8 := 60 :: (k.name ++ (k.attrs.take j).flatMap Tk.attrText)
theorem tagTo_zero (k : Tk.Tok) : tagTo k 0 = 60 :: k.name := by simp [tagTo]
theorem tagTo_next (k : Tk.Tok) (j : Nat) (h : j < k.attrs.length) : tagTo k (j + 1) = tagTo k j ++ (32 :: k.attrs[j].1 ++ [61, 34] ++ Rf.enc true k.attrs[j].2 ++ [34]) := by
  unfold tagTo
  rw [List.take_succ_eq_append_getElem h, List.flatMap_append]
  simp [Tk.attrText]
theorem tagTo_end (k : Tk.Tok) (j : Nat) (h : k.attrs.length ≤ j) : tagTo k j ++ (if k.self then [47, 62] else [62]) = 60 :: (k.name ++ Tk.tailText k.attrs k.self) := by
  unfold tagTo Tk.tailText
  rw [List.take_of_length_le h]
  simp
theorem tagTo_len (k : Tk.Tok) (j : Nat) : (tagTo k j).length ≤ (60 :: (k.name ++ Tk.tailText k.attrs k.self)).length := by
  have e : k.attrs.flatMap Tk.attrText = (k.attrs.take j).flatMap Tk.attrText ++ (k.attrs.drop j).flatMap Tk.attrText := by
    rw [← List.flatMap_append, List.take_append_drop]
  unfold tagTo Tk.tailText
  rw [e]
  simp only [List.length_cons, List.length_append]
  omega
theorem str_cat12 (a b : List UInt8) : str a ++ str b = str (a ++ b) := by
  apply str_eq
  rw [ByteArray.data_append, Array.toList_append, str_data, str_data]
theorem str_cat_l (a : ByteArray) (b : List UInt8) : a ++ str b = str (a.data.toList ++ b) := by
  apply str_eq
  rw [ByteArray.data_append, Array.toList_append, str_data]
theorem str_cat_r (a : List UInt8) (b : ByteArray) : str a ++ b = str (a ++ b.data.toList) := by
  apply str_eq
  rw [ByteArray.data_append, Array.toList_append, str_data]
/-- What a tag's text asks for: that a builder bears it. -/
structure Bears (k : Tk.Tok) : Prop where
  ats : k.attrs.length ≤ 1000000
  all : (60 :: (k.name ++ Tk.tailText k.attrs k.self)).length ≤ 1000000000
  each : ∀ a ∈ k.attrs, a.1.length ≤ 100000000 ∧ a.2.length ≤ 100000000
  text : k.text.length ≤ 100000000
  name : k.name.length ≤ 1000000000
theorem kind_no {k : Nat} {m : Nat} (h : k ≠ m) : ((k : Int) == (m : Int)) = false := by
  rw [beq_eq_false_iff_ne]
  omega
end Go.Proofs.Ytoiedadfpbbdgaa
