/- The bytes up to 32 at both ends of a text: what strings.TrimFunc leaves, as a plain function on lists of bytes. -/
import Derived.Lib.TrimUEq
import Derived.Shelf.GgClosure.StringsTrimFunc
namespace Url
open Go Go.Lib
def low (c : UInt8) : Bool := decide (c.toNat ≤ 32)
def rtrim (l : List UInt8) : List UInt8 := (l.reverse.dropWhile low).reverse
def ends (l : List UInt8) : List UInt8 := rtrim (l.dropWhile low)
/-- The rune is up to 32. -/
def lowR (r : Nat) : Bool := decide (r ≤ 32)
theorem rtrim_low (l : List UInt8) (c : UInt8) (h : low c = true) : rtrim (l ++ [c]) = rtrim l := by simp [rtrim, h]
theorem rtrim_stop (l : List UInt8) (c : UInt8) (h : low c = false) : rtrim (l ++ [c]) = l ++ [c] := by simp [rtrim, h]
theorem rtrim_nil : rtrim [] = [] := rfl
theorem decodeN_ge (n b0 b1 b2 b3 : Nat) (h : 128 ≤ b0) : 128 ≤ (decodeN n b0 b1 b2 b3).1 := by
  unfold decodeN
  rw [if_neg (by omega)]
  repeat' split
  all_goals (simp only []; omega)
theorem decodeN_high (n b0 b1 b2 b3 : Nat) (h : 128 ≤ b0) : lowR (decodeN n b0 b1 b2 b3).1 = false := by
  have := decodeN_ge n b0 b1 b2 b3 h
  exact decide_eq_false (by omega)
theorem at_getD (l : List UInt8) (k : Nat) (h : k < l.length) : l.getD k 0 = l[k] := by simp [List.getD, h]
theorem left_ends (s : ByteArray) : ∀ (f pos : Nat), s.size ≤ pos + f →
    (if idxFuncFrom lowR false s f pos = -1 then [] else s.data.toList.drop (idxFuncFrom lowR false s f pos).toNat) = (s.data.toList.drop pos).dropWhile low
  | 0, pos, h => by
    have hd : s.data.toList.drop pos = [] := List.drop_of_length_le (by rw [← size_eq]; omega)
    rw [hd]
    simp [idxFuncFrom]
  | f + 1, pos, h => by
    by_cases hp : pos < s.size
    · have hpl : pos < s.data.toList.length := by rw [← size_eq]; exact hp
      rw [List.drop_eq_getElem_cons hpl]
      unfold idxFuncFrom
      rw [if_pos hp, decode_N, at_getD _ _ hpl]
      by_cases hb : s.data.toList[pos].toNat < 128
      · rw [decodeN_ascii _ _ _ _ _ hb]
        cases hl : low s.data.toList[pos]
        · have hr : lowR s.data.toList[pos].toNat = false := hl
          simp only [hr, if_true]
          rw [List.dropWhile_cons_of_neg (by rw [hl]; decide), if_neg (by omega), Int.toNat_natCast, ← List.drop_eq_getElem_cons hpl]
        · have hr : lowR s.data.toList[pos].toNat = true := hl
          simp only [hr, Bool.true_eq_false, if_false]
          rw [List.dropWhile_cons_of_pos hl]
          exact left_ends s f (pos + 1) (by omega)
      · have hr := decodeN_high (s.data.toList.length - pos) s.data.toList[pos].toNat (s.data.toList.getD (pos + 1) 0).toNat (s.data.toList.getD (pos + 2) 0).toNat (s.data.toList.getD (pos + 3) 0).toNat (by omega)
        have hl : low s.data.toList[pos] = false := decide_eq_false (by omega)
        simp only [hr, if_true]
        rw [List.dropWhile_cons_of_neg (by rw [hl]; decide), if_neg (by omega), Int.toNat_natCast, ← List.drop_eq_getElem_cons hpl]
    · have hd : s.data.toList.drop pos = [] := List.drop_of_length_le (by rw [← size_eq]; omega)
      rw [idxFuncFrom_end _ _ _ _ _ hp, if_pos rfl, hd]
      rfl
theorem trimLeft_ends (s : ByteArray) : (trimLeftF lowR s).data.toList = s.data.toList.dropWhile low := by
  have h := left_ends s s.size 0 (by omega)
  rw [List.drop_zero] at h
  rw [← h]
  unfold trimLeftF idxFunc
  split
  · rfl
  · rw [extract_data]
    rw [List.take_of_length_le]
    rw [List.length_drop, ← size_eq]
    omega
theorem right_ends (s : ByteArray) : ∀ (f i : Nat), i ≤ f → i ≤ s.data.toList.length → OpenAt s.data.toList i →
    rtrim (s.data.toList.take i) = s.data.toList.take (if 0 ≤ lastIdxFuncFrom lowR false s f i then (lastIdxFuncFrom lowR false s f i).toNat + (decodeL (s.data.toList.drop (lastIdxFuncFrom lowR false s f i).toNat)).2 else 0)
  | 0, i, hf, _, _ => by
    obtain rfl : i = 0 := by omega
    simp [lastIdxFuncFrom, rtrim]
  | f + 1, i, hf, hil, ho => by
    by_cases hi : 0 < i
    · have hlt : i - 1 < s.data.toList.length := by omega
      have hsn : s.data.toList.take i = s.data.toList.take (i - 1) ++ [s.data.toList[i - 1]] := by
        have := List.take_succ_eq_append_getElem hlt
        rw [show i - 1 + 1 = i by omega] at this
        exact this
      have hw := decodeLastL_width (s.data.toList.take i) (by rw [List.length_take]; omega)
      rw [List.length_take, Nat.min_eq_left hil] at hw
      have stop : lowR (decodeLastL (s.data.toList.take i)).1 = false → low s.data.toList[i - 1] = false → rtrim (s.data.toList.take i) = s.data.toList.take (if 0 ≤ lastIdxFuncFrom lowR false s (f + 1) i then (lastIdxFuncFrom lowR false s (f + 1) i).toNat + (decodeL (s.data.toList.drop (lastIdxFuncFrom lowR false s (f + 1) i).toNat)).2 else 0) := by
        intro h1 h2
        simp only [lastIdxFuncFrom, if_pos hi, h1, if_true]
        rw [if_pos (by omega), Int.toNat_natCast, fw_width _ i hi hil ho, Nat.sub_add_cancel hw.2]
        rw [hsn]
        exact rtrim_stop _ _ h2
      rcases last_cases s.data.toList i hi hil with ⟨ha, hd⟩ | ⟨ha, hd⟩ | ⟨ha, st, hst, hd, hsum⟩
      · rw [at_getD _ _ hlt] at ha hd
        cases hl : low s.data.toList[i - 1]
        · exact stop (by rw [hd]; exact hl) hl
        · have hr : lowR s.data.toList[i - 1].toNat = true := hl
          simp only [lastIdxFuncFrom, if_pos hi, hd, hr, Bool.true_eq_false, if_false]
          rw [hsn, rtrim_low _ _ hl]
          exact right_ends s f (i - 1) (by omega) (by omega) (.inr (by rw [at_getD _ _ hlt]; omega))
      · rw [at_getD _ _ hlt] at ha
        exact stop (by rw [hd]; rfl) (decide_eq_false (by omega))
      · rw [at_getD _ _ hlt] at ha
        refine stop ?_ (decide_eq_false (by omega))
        rw [hd]
        rw [decodeL_N, getD_dropU, Nat.add_zero, getD_takeU _ i st hst] at hsum ⊢
        by_cases hb : (s.data.toList.getD st 0).toNat < 128
        · rw [decodeN_ascii _ _ _ _ _ hb] at hsum
          have : st = i - 1 := by simp only [] at hsum; omega
          subst this
          rw [at_getD _ _ hlt] at hb
          omega
        · exact decodeN_high _ _ _ _ _ (by omega)
    · obtain rfl : i = 0 := by omega
      rw [lastIdxFuncFrom_zero]
      simp [rtrim]
theorem lastIdx_lt (s : ByteArray) : ∀ (f i : Nat), i ≤ s.size → 0 ≤ lastIdxFuncFrom lowR false s f i → lastIdxFuncFrom lowR false s f i < i
  | 0, _, _, h => by simp [lastIdxFuncFrom] at h
  | f + 1, i, hi, h => by
    unfold lastIdxFuncFrom at h ⊢
    by_cases hp : 0 < i
    · rw [if_pos hp] at h ⊢
      have hw := decodeLastL_width (s.data.toList.take i) (by rw [List.length_take, ← size_eq]; omega)
      rw [List.length_take, ← size_eq, Nat.min_eq_left hi] at hw
      split at h
      · rename_i h1
        rw [if_pos h1]
        omega
      · rename_i h1
        rw [if_neg h1]
        have := lastIdx_lt s f _ (by omega) h
        omega
    · rw [if_neg hp] at h
      omega
theorem trimRight_ends (s : ByteArray) : (trimRightF lowR s).data.toList = rtrim s.data.toList := by
  have h := right_ends s s.size s.size (Nat.le_refl _) (by rw [← size_eq]; exact Nat.le_refl _) (.inl (size_eq s))
  rw [List.take_of_length_le (by rw [← size_eq]; exact Nat.le_refl _)] at h
  rw [h]
  unfold trimRightF rightEndF lastIdxFunc
  rw [extract_data, List.drop_zero, Nat.sub_zero]
  congr 1
  split
  · rename_i h0
    congr 2
    have hlt := lastIdx_lt s s.size s.size (Nat.le_refl _) h0
    have hx : s.extract (lastIdxFuncFrom lowR false s s.size s.size).toNat s.size = ⟨(s.data.toList.drop (lastIdxFuncFrom lowR false s s.size s.size).toNat).toArray⟩ := by
      rw [extract_eq, List.take_of_length_le (by rw [List.length_drop, ← size_eq]; exact Nat.le_refl _)]
    have hxs : (⟨(s.data.toList.drop (lastIdxFuncFrom lowR false s s.size s.size).toNat).toArray⟩ : ByteArray).size ≠ 0 := by
      rw [size_eq]
      simp only [List.length_drop]
      rw [← size_eq]
      omega
    rw [hx]
    unfold decodeGoB decodeL
    rw [if_neg hxs]
  · rfl
/-- What strings.TrimFunc leaves. -/
theorem trimF_ends (s : ByteArray) : (trimF lowR s).data.toList = ends s.data.toList := by
  unfold trimF ends
  rw [trimRight_ends, trimLeft_ends]
end Url
