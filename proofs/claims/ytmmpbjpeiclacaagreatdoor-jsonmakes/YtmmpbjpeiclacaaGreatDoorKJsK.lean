/- Plain mathematics of package json: the document's own ways to tell a number, to quote a text and to write a value, against ours. -/
import Derived.Test.YtmmpbjpeiclacaaGreatDoorKJson
set_option linter.unusedVariables false
namespace Jsn
/-- How many digits a text begins with. -/
def cnt (l : List UInt8) : Nat := l.length - (digs l).length
theorem cnt_nil : cnt [] = 0 := rfl
theorem cnt_yes {c : UInt8} {l : List UInt8} (h : dgB c = true) : cnt (c :: l) = cnt l + 1 := by
  unfold cnt digs
  rw [List.dropWhile_cons_of_pos h]
  have := digs_le l
  unfold digs at this
  simp
  omega
theorem cnt_no {c : UInt8} {l : List UInt8} (h : dgB c = false) : cnt (c :: l) = 0 := by
  unfold cnt digs
  rw [List.dropWhile_cons_of_neg (by simp [h])]
  simp
theorem cnt_le (l : List UInt8) : cnt l ≤ l.length := by unfold cnt; omega
theorem drop_cnt : ∀ l : List UInt8, l.drop (cnt l) = digs l
  | [] => rfl
  | c :: l => by
    cases h : dgB c
    · rw [cnt_no h]
      unfold digs
      rw [List.dropWhile_cons_of_neg (by simp [h])]
      rfl
    · rw [cnt_yes h, List.drop_succ_cons, drop_cnt l]
      unfold digs
      rw [List.dropWhile_cons_of_pos h]
theorem digR_cnt (l : List UInt8) : digR l = (digs l, decide (0 < cnt l)) := by
  unfold digR cnt
  have := digs_le l
  congr 1
  by_cases h : (digs l).length < l.length
  · rw [decide_eq_true h, decide_eq_true (by omega)]
  · rw [decide_eq_false h, decide_eq_false (by omega)]
/-- The end of a number, as the document tells it. -/
def expD (l : List UInt8) : Bool := if l = [] then true else if starts isExp l = true then (let r := cutIf isSgn l.tail; decide (r ≠ []) && decide (cnt r = r.length)) else false
def fracD (l : List UInt8) : Bool := if starts isDot l = true then (if cnt l.tail = 0 then false else expD (digs l.tail)) else expD l
def intD (l : List UInt8) : Bool := if cnt l = 0 ∨ (1 < cnt l ∧ starts isNul l = true) then false else fracD (digs l)
def numD (l : List UInt8) : Bool := intD (cutIf isMin l)
theorem exp_eq (l : List UInt8) : expD l = decide (expR (l, true) = ([], true)) := by
  unfold expD expR
  simp only [true_and]
  by_cases h0 : l = []
  · subst h0; simp [starts]
  · rw [if_neg h0]
    by_cases h1 : starts isExp l = true
    · rw [if_pos h1, if_pos h1, digR_cnt]
      have h2 := digs_le (cutIf isSgn l.tail)
      have h3 : (cnt (cutIf isSgn l.tail) = (cutIf isSgn l.tail).length) ↔ digs (cutIf isSgn l.tail) = [] := by
        unfold cnt
        constructor
        · intro h
          apply List.eq_nil_of_length_eq_zero
          by_cases hz : (cutIf isSgn l.tail).length = 0
          · omega
          · omega
        · intro h; rw [h]; simp
      have h4 : (cutIf isSgn l.tail ≠ [] ∧ cnt (cutIf isSgn l.tail) = (cutIf isSgn l.tail).length) ↔ (digs (cutIf isSgn l.tail) = [] ∧ decide (0 < cnt (cutIf isSgn l.tail)) = true) := by
        rw [h3]
        constructor
        · rintro ⟨ha, hb⟩
          refine ⟨hb, decide_eq_true ?_⟩
          unfold cnt
          rw [hb]
          have : 0 < (cutIf isSgn l.tail).length := List.length_pos_iff.2 ha
          simp; omega
        · rintro ⟨ha, hb⟩
          have hb := of_decide_eq_true hb
          refine ⟨fun he => ?_, ha⟩
          rw [he] at hb
          simp [cnt] at hb
      simp only [Prod.mk.injEq]
      rw [← Bool.decide_and]
      exact decide_eq_decide.2 h4
    · rw [if_neg h1, if_neg h1]
      simp [h0]
theorem expR_false (l : List UInt8) : expR (l, false) = (l, false) := by unfold expR; simp
theorem frac_eq (l : List UInt8) : fracD l = decide (expR (fracR (l, true)) = ([], true)) := by
  unfold fracD fracR
  simp only [true_and]
  by_cases h1 : starts isDot l = true
  · rw [if_pos h1, if_pos h1, digR_cnt]
    by_cases h2 : cnt l.tail = 0
    · rw [if_pos h2, decide_eq_false (show ¬ 0 < cnt l.tail by omega), expR_false]
      simp
    · rw [if_neg h2, decide_eq_true (show 0 < cnt l.tail by omega), exp_eq]
  · rw [if_neg h1, if_neg h1, exp_eq]
theorem fracR_false (l : List UInt8) : fracR (l, false) = (l, false) := by unfold fracR; simp
theorem nul_dg (c : UInt8) : isNul c = true → dgB c = true := by revert c; apply byte_all; decide +kernel
theorem num_eq (l : List UInt8) : numD l = isNum l := by
  unfold numD isNum numR intD intR
  generalize cutIf isMin l = s
  by_cases hn : starts isNul s = true
  · rw [if_pos hn]
    obtain ⟨c, r, rfl⟩ : ∃ c r, s = c :: r := by
      cases s with
      | nil => simp [starts] at hn
      | cons c r => exact ⟨c, r, rfl⟩
    have hc : dgB c = true := nul_dg c hn
    by_cases h1 : cnt r = 0
    · rw [if_neg (by rw [cnt_yes hc]; omega)]
      have : digs (c :: r) = r := by
        rw [← drop_cnt, cnt_yes hc, h1]; rfl
      rw [this, frac_eq]
      rfl
    · rw [if_pos (by rw [cnt_yes hc]; exact .inr ⟨by omega, hn⟩)]
      obtain ⟨e, q, rfl⟩ : ∃ e q, r = e :: q := by
        cases r with
        | nil => exact absurd rfl h1
        | cons e q => exact ⟨e, q, rfl⟩
      have he : dgB e = true := by
        cases he : dgB e
        · exact absurd (cnt_no he) h1
        · rfl
      obtain ⟨_, _, hd, hx, _⟩ := dg_sgn e he
      have f1 : fracR (e :: q, true) = (e :: q, true) := by unfold fracR; simp [starts, hd]
      have f2 : expR (e :: q, true) = (e :: q, true) := by unfold expR; simp [starts, hx]
      show false = decide (expR (fracR (e :: q, true)) = ([], true))
      rw [f1, f2]
      simp
  · rw [if_neg hn, digR_cnt]
    by_cases h1 : cnt s = 0
    · rw [if_pos (.inl h1), decide_eq_false (show ¬ 0 < cnt s by omega), fracR_false, expR_false]
      simp
    · rw [if_neg (by rintro (h | h); exact h1 h; exact hn h.2), decide_eq_true (show 0 < cnt s by omega), frac_eq]
/-- Where a byte stands among those that are written by a letter. -/
def escP (c : UInt8) : Nat := [8, 9, 10, 12, 13, 34, 92].findIdx (· == c)
def escT : List UInt8 := [98, 116, 110, 102, 114, 34, 92]
theorem esc_eq (c : UInt8) : escB c = if escP c < 7 then [92, escT.getD (escP c) 0] else if c < 32 ∨ c = 127 then [92, 117, 48, 48, hexC (c.toNat / 16), hexC (c.toNat % 16)] else [c] := by
  revert c; apply byte_all; decide +kernel
mutual
/-- A value's text, as the document tells it, whatever the value. -/
def textD : J → List UInt8
  | .mk k t ks cs => if k = 1 then nullT else if k = 4 then quoteJ t else if k = 5 then 91 :: (itemsD false true ks cs ++ [93]) else if k = 6 then 123 :: (itemsD true true ks cs ++ [125]) else t
def itemsD : Bool → Bool → List (List UInt8) → List J → List UInt8
  | _, _, _, [] => []
  | tab, b, ks, c :: cs => (if b = true then [] else [44]) ++ ((if tab = true ∧ ks ≠ [] then quoteJ (ks.headD []) ++ [58] else []) ++ (textD c ++ itemsD tab false ks.tail cs))
end
theorem textD_mk (k : Int) (t : List UInt8) (ks : List (List UInt8)) (cs : List J) : textD (.mk k t ks cs) = if k = 1 then nullT else if k = 4 then quoteJ t else if k = 5 then 91 :: (itemsD false true ks cs ++ [93]) else if k = 6 then 123 :: (itemsD true true ks cs ++ [125]) else t := by rw [textD]
theorem itemsD_nil (tab b : Bool) (ks : List (List UInt8)) : itemsD tab b ks [] = [] := by rw [itemsD]
theorem itemsD_cons (tab b : Bool) (ks : List (List UInt8)) (c : J) (cs : List J) : itemsD tab b ks (c :: cs) = (if b = true then [] else [44]) ++ ((if tab = true ∧ ks ≠ [] then quoteJ (ks.headD []) ++ [58] else []) ++ (textD c ++ itemsD tab false ks.tail cs)) := by rw [itemsD]
theorem quote_le (t : List UInt8) : (quoteJ t).length ≤ 6 * t.length + 2 := by
  rw [quote_len]
  have := escLen_le t
  omega
theorem lenK_cons (k : List UInt8) (ks : List (List UInt8)) : lenK (k :: ks) = k.length + lenK ks := by simp [lenK]
theorem itemsD_le : ∀ (cs : List J) (tab b : Bool) (ks : List (List UInt8)), (∀ c ∈ cs, (textD c).length ≤ 10 * sizeJ c) → (itemsD tab b ks cs).length ≤ 10 * sizeL cs + cs.length + 6 * lenK ks + 3 * ks.length
  | [], tab, b, ks, _ => by rw [itemsD_nil]; simp
  | c :: cs, tab, b, ks, h => by
    have h1 := h c (List.mem_cons_self ..)
    have h2 := itemsD_le cs tab false ks.tail (fun d hd => h d (List.mem_cons_of_mem _ hd))
    rw [itemsD_cons, sizeL_cons, List.length_append, List.length_append, List.length_append, List.length_cons]
    have h3 : (if b = true then ([] : List UInt8) else [44]).length ≤ 1 := by split <;> simp
    cases ks with
    | nil =>
      have h4 : (if tab = true ∧ ([] : List (List UInt8)) ≠ [] then quoteJ (([] : List (List UInt8)).headD []) ++ [58] else []).length = 0 := by simp
      rw [h4]
      simp only [List.tail_nil] at h2 ⊢
      omega
    | cons k ks =>
      have h4 : (if tab = true ∧ k :: ks ≠ [] then quoteJ ((k :: ks).headD []) ++ [58] else []).length ≤ 6 * k.length + 3 := by
        split
        · have := quote_le k
          simp
          omega
        · simp
      rw [lenK_cons, List.length_cons]
      simp only [List.tail_cons] at h2 ⊢
      omega
theorem textD_le : ∀ v : J, (textD v).length ≤ 10 * sizeJ v := by
  intro v
  induction v using J.ind with
  | h k t ks cs ih =>
    rw [textD_mk, sizeJ_mk]
    have h5 := itemsD_le cs false true ks ih
    have h6 := itemsD_le cs true true ks ih
    have hq := quote_le t
    split
    · simp [nullT]; omega
    · split
      · omega
      · split
        · simp; omega
        · split
          · simp; omega
          · omega
theorem items_same : ∀ (cs : List J) (b : Bool) (d n m : Nat), (∀ c ∈ cs, ∀ d n m, mayC c d n = some m → textD c = textJ c) → mayL cs d n = some m → itemsD false b [] cs = itemsJ b cs
  | [], b, d, n, m, _, _ => by rw [itemsD_nil, items_nil]
  | c :: cs, b, d, n, m, h, hm => by
    rw [mayL] at hm
    split at hm
    · cases hm
    · rename_i p hp
      rw [itemsD_cons, items_cons, h c (List.mem_cons_self ..) _ _ _ hp, show ([] : List (List UInt8)).tail = [] from rfl, items_same cs false d p m (fun e he => h e (List.mem_cons_of_mem _ he)) hm]
      simp
theorem pairs_same : ∀ (cs : List J) (ks : List (List UInt8)) (b : Bool) (d n m : Nat), (∀ c ∈ cs, ∀ d n m, mayC c d n = some m → textD c = textJ c) → ks.length = cs.length → mayL cs d n = some m → itemsD true b ks cs = pairsJ b ks cs
  | [], ks, b, d, n, m, _, _, _ => by rw [itemsD_nil, pairs_nil]
  | c :: cs, ks, b, d, n, m, h, hl, hm => by
    rw [mayL] at hm
    split at hm
    · cases hm
    · rename_i p hp
      cases ks with
      | nil => simp at hl
      | cons k ks =>
        rw [itemsD_cons, pairs_cons, h c (List.mem_cons_self ..) _ _ _ hp, show (k :: ks).tail = ks from rfl, pairs_same cs ks false d p m (fun e he => h e (List.mem_cons_of_mem _ he)) (by simpa using hl) hm]
        simp
theorem textD_may : ∀ (v : J) (d n m : Nat), mayC v d n = some m → textD v = textJ v := by
  intro v
  induction v using J.ind with
  | h k t ks cs ih =>
    intro d n m hm
    rw [textD_mk, textJ_mk]
    rw [mayC] at hm
    split at hm
    · cases hm
    · split at hm
      · rename_i h5
        subst h5
        split at hm
        · rename_i h
          obtain ⟨_, rfl, _⟩ := h
          rw [items_same cs true (d + 1) (n + 1) m ih hm]
          simp
        · cases hm
      · rename_i h5
        split at hm
        · rename_i h6
          subst h6
          split at hm
          · rename_i h
            split at hm
            · rw [pairs_same cs ks true (d + 1) (n + 1) m ih h.2.1 hm]
              simp
            · cases hm
          · cases hm
        · rename_i h6
          rw [if_neg h5, if_neg h6, if_neg h5, if_neg h6]
theorem textD_eq (v : J) (h : mayJ v = true) : textD v = textJ v := by
  unfold mayJ at h
  obtain ⟨m, hm⟩ := Option.isSome_iff_exists.1 h
  exact textD_may v 0 0 m hm
end Jsn
