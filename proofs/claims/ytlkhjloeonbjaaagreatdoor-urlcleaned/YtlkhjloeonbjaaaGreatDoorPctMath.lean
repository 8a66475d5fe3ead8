/- Plain functions: bytes marked and unmarked, pairs' text, a text's pairs. -/
import Derived.Test.YtlkhjloeonbjaaaGreatDoorAscHex
import Derived.Test.YtlkhjloeonbjaaaGreatDoorAscJoined
import Derived.Test.YtlkhjloeonbjaaaGreatDoorUtfSpec
import Derived.Lib.ReplaceLaws
namespace Pct
open Go
def plainN (n : Int) : Bool := decide (n = 45 ∨ n = 46 ∨ n = 95 ∨ n = 126) || decide ((65 ≤ n ∧ n ≤ 90) ∨ (97 ≤ n ∧ n ≤ 122)) || decide (48 ≤ n ∧ n ≤ 57)
def plain (c : UInt8) : Bool := plainN c.toNat
def hexU (k : Nat) : UInt8 := [48, 49, 50, 51, 52, 53, 54, 55, 56, 57, 65, 66, 67, 68, 69, 70].getD k 0
def mk (c : UInt8) : List UInt8 := [37, hexU (c.toNat / 16), hexU (c.toNat % 16)]
def stays (free : List UInt8) (c : UInt8) : Bool := plain c || free.contains c
def one (free : List UInt8) (c : UInt8) : List UInt8 := if stays free c then [c] else mk c
def mark (free l : List UInt8) : List UInt8 := l.flatMap (one free)
theorem one_yes {free : List UInt8} {c : UInt8} (h : stays free c = true) : one free c = [c] := by unfold one; rw [if_pos h]
theorem one_no {free : List UInt8} {c : UInt8} (h : stays free c = false) : one free c = mk c := by unfold one; rw [h]; rfl
theorem mark_nil (free : List UInt8) : mark free [] = [] := rfl
theorem mark_cons (free : List UInt8) (c : UInt8) (l : List UInt8) : mark free (c :: l) = one free c ++ mark free l := by simp [mark]
theorem mark_next (free l : List UInt8) (k : Nat) (h : k < l.length) : mark free (l.take (k + 1)) = mark free (l.take k) ++ one free l[k] := by
  unfold mark
  rw [Asc.take_snoc l k h, List.flatMap_append, List.flatMap_cons, List.flatMap_nil, List.append_nil]
theorem one_len (free : List UInt8) (c : UInt8) : (one free c).length ≤ 3 := by unfold one mk; split <;> simp
theorem mark_len (free : List UInt8) : ∀ l : List UInt8, (mark free l).length ≤ 3 * l.length
  | [] => by simp [mark]
  | c :: l => by
    have := mark_len free l
    have := one_len free c
    rw [mark_cons, List.length_append, List.length_cons]
    omega
/-- The byte that a text begins with, or that its first mark tells, and how many bytes that takes. -/
def first (l : List UInt8) : UInt8 × Nat :=
  if l.getD 0 0 = 37 ∧ 3 ≤ l.length ∧ Asc.hexOk (Asc.bt (l.getD 1 0)) = true ∧ Asc.hexOk (Asc.bt (l.getD 2 0)) = true then (UInt8.ofNat (Asc.hexV (Asc.bt (l.getD 1 0)) * 16 + Asc.hexV (Asc.bt (l.getD 2 0))).toNat, 3) else (l.getD 0 0, 1)
theorem first_size (l : List UInt8) : (first l).2 = 1 ∨ ((first l).2 = 3 ∧ 3 ≤ l.length) := by
  unfold first
  split
  · exact .inr ⟨rfl, by simp_all⟩
  · exact .inl rfl
def unmark (l : List UInt8) : List UInt8 := if _h : l = [] then [] else (first l).1 :: unmark (l.drop (first l).2)
termination_by l.length
decreasing_by
  have h1 := first_size l
  have h2 : 0 < l.length := List.length_pos_iff.2 (by assumption)
  rw [List.length_drop]
  omega
theorem unmark_nil : unmark [] = [] := by rw [unmark]; simp
theorem unmark_go (l : List UInt8) (h : l ≠ []) : unmark l = (first l).1 :: unmark (l.drop (first l).2) := by rw [unmark]; simp [h]
theorem unmark_len (l : List UInt8) : (unmark l).length ≤ l.length := by
  by_cases h : l = []
  · subst h; rw [unmark_nil]; simp
  · have h1 := first_size l
    have h2 : 0 < l.length := List.length_pos_iff.2 (by assumption)
    have ih := unmark_len (l.drop (first l).2)
    rw [unmark_go l h, List.length_cons]
    rw [List.length_drop] at ih
    omega
termination_by l.length
decreasing_by
  rw [List.length_drop]
  omega
theorem unmark_at (l : List UInt8) (k : Nat) (h : k < l.length) : unmark (l.drop k) = (first (l.drop k)).1 :: unmark (l.drop (k + (first (l.drop k)).2)) := by
  rw [unmark_go _ (by intro e; have := congrArg List.length e; simp at this; omega), List.drop_drop]
theorem bytes {P : UInt8 → Prop} (h : ∀ n : Fin 256, P (UInt8.ofNat n.val)) (c : UInt8) : P c := by
  have := h ⟨c.toNat, c.toNat_lt⟩
  simpa using this
theorem hexU_ok : ∀ k : Fin 16, Asc.hexOk (Asc.bt (hexU k.val)) = true ∧ Asc.hexV (Asc.bt (hexU k.val)) = k.val ∧ plain (hexU k.val) = true := by decide
theorem hexU_at (k : Nat) (h : k < 16) : Asc.hexOk (Asc.bt (hexU k)) = true ∧ Asc.hexV (Asc.bt (hexU k)) = k ∧ plain (hexU k) = true := hexU_ok ⟨k, h⟩
theorem first_mk (c : UInt8) (x : List UInt8) : first (mk c ++ x) = (c, 3) := by
  have hc := c.toNat_lt
  have h1 := hexU_at (c.toNat / 16) (by omega)
  have h2 := hexU_at (c.toNat % 16) (by omega)
  unfold first mk
  simp only [List.cons_append, List.nil_append, List.getD_cons_zero, List.getD_cons_succ, List.length_cons]
  rw [if_pos ⟨by simp, by omega, h1.1, h2.1⟩, h1.2.1, h2.2.1]
  have e : ((((c.toNat / 16 : Nat) : Int) * 16 + ((c.toNat % 16 : Nat) : Int)).toNat) = c.toNat := by omega
  rw [e]
  simp
theorem first_other (c : UInt8) (x : List UInt8) (h : c ≠ 37) : first (c :: x) = (c, 1) := by
  unfold first
  rw [if_neg (by rintro ⟨e, _⟩; exact h (by simpa using e))]
  rfl
theorem plain_37 : plain 37 = false := by decide
theorem unmark_mark (free : List UInt8) (hf : free.contains 37 = false) : ∀ (l x : List UInt8), unmark (mark free l ++ x) = l ++ unmark x
  | [], x => rfl
  | c :: l, x => by
    rw [mark_cons, List.append_assoc]
    cases hs : stays free c
    · rw [one_no hs, unmark_go _ (by simp [mk]), first_mk]
      show c :: unmark ((mk c ++ (mark free l ++ x)).drop 3) = _
      rw [show (mk c ++ (mark free l ++ x)).drop 3 = mark free l ++ x from rfl, unmark_mark free hf l x]
      rfl
    · have hc : c ≠ 37 := by
        intro e
        subst e
        unfold stays at hs
        rw [plain_37, hf] at hs
        cases hs
      rw [one_yes hs, unmark_go _ (by simp), List.cons_append, first_other _ _ hc]
      show c :: unmark (([] ++ (mark free l ++ x))) = _
      rw [List.nil_append, unmark_mark free hf l x]
      rfl
theorem unmark_back (free : List UInt8) (hf : free.contains 37 = false) (l : List UInt8) : unmark (mark free l) = l := by
  have := unmark_mark free hf l []
  rwa [List.append_nil, unmark_nil, List.append_nil] at this
theorem mark_bytes (free : List UInt8) : ∀ (l : List UInt8), ∀ b ∈ mark free l, b = 37 ∨ plain b = true ∨ free.contains b = true
  | [], b, h => by simp [mark] at h
  | c :: l, b, h => by
    rw [mark_cons, List.mem_append] at h
    rcases h with h | h
    · cases hs : stays free c
      · rw [one_no hs] at h
        have hc := c.toNat_lt
        have h1 := hexU_at (c.toNat / 16) (by omega)
        have h2 := hexU_at (c.toNat % 16) (by omega)
        simp only [mk, List.mem_cons, List.not_mem_nil, or_false] at h
        rcases h with rfl | rfl | rfl
        · exact .inl rfl
        · exact .inr (.inl h1.2.2)
        · exact .inr (.inl h2.2.2)
      · rw [one_yes hs, List.mem_singleton] at h
        subst h
        unfold stays at hs
        rw [Bool.or_eq_true] at hs
        exact .inr hs
    · exact mark_bytes free l b h
/-- Each byte of one kind, another one. -/
def turned (l : List UInt8) (f t : UInt8) : List UInt8 := l.map fun c => if c = f then t else c
theorem turned_len (l : List UInt8) (f t : UInt8) : (turned l f t).length = l.length := by simp [turned]
theorem turned_back (l : List UInt8) (f t : UInt8) (h : ∀ c ∈ l, c ≠ t) : turned (turned l f t) t f = l := by
  unfold turned
  rw [List.map_map]
  conv => rhs; rw [← List.map_id l]
  apply List.map_congr_left
  intro c hc
  have := h c hc
  simp only [Function.comp, id]
  by_cases e : c = f
  · subst e; simp
  · simp [e, this]
/-- A name's, or a value's, text in a form; and what such a text tells. -/
def part (l : List UInt8) : List UInt8 := turned (mark [32] l) 32 43
def read (l : List UInt8) : List UInt8 := Utf.rep (unmark (turned l 43 32))
theorem part_len (l : List UInt8) : (part l).length ≤ 3 * l.length := by unfold part; rw [turned_len]; exact mark_len _ l
theorem read_len (l : List UInt8) : (read l).length ≤ 3 * l.length := by
  have h1 := Utf.rep_len (unmark (turned l 43 32))
  have h2 := unmark_len (turned l 43 32)
  rw [turned_len] at h2
  unfold read
  omega
theorem read_nil : read [] = [] := by unfold read turned; rw [List.map_nil, unmark_nil, Utf.rep_nil]
theorem read_text (l : List UInt8) : Utf.isText (read l) = true := Utf.rep_text _
theorem mark_43 (l : List UInt8) : ∀ c ∈ mark [32] l, c ≠ 43 := by
  intro c hc e
  subst e
  rcases mark_bytes _ _ _ hc with h | h | h
  · exact absurd h (by decide)
  · exact absurd h (by decide)
  · exact absurd h (by decide)
theorem read_part (l : List UInt8) (h : Utf.isText l = true) : read (part l) = l := by
  unfold read part
  rw [turned_back _ _ _ (mark_43 l), unmark_back _ (by decide), Utf.rep_self l h]
theorem part_bytes (l : List UInt8) : ∀ b ∈ part l, b ≠ 38 ∧ b ≠ 61 := by
  intro b hb
  unfold part turned at hb
  rw [List.mem_map] at hb
  obtain ⟨c, hc, rfl⟩ := hb
  by_cases e : c = 32
  · rw [if_pos e]; decide
  · rw [if_neg e]
    rcases mark_bytes _ _ _ hc with h | h | h
    · subst h; decide
    · refine ⟨?_, ?_⟩ <;> (rintro rfl; exact absurd h (by decide))
    · simp at h
      exact absurd h e
abbrev Pr := List UInt8 × List UInt8
def text (p : Pr) : List UInt8 := part p.1 ++ [61] ++ part p.2
def form (l : List Pr) : List UInt8 := Lib.join (l.map text) [38]
def pairOf (t : List UInt8) : Pr := (read (Lib.cut t [61]).1, read (Lib.cut t [61]).2.1)
def pairs (ts : List (List UInt8)) : List Pr := (ts.filter fun t => !t.isEmpty).map pairOf
def parse (l : List UInt8) : List Pr := pairs (Asc.split l 38)
theorem pairs_empty (ts : List (List UInt8)) (k : Nat) (h : ts[k]? = some []) : pairs (ts.take (k + 1)) = pairs (ts.take k) := by
  unfold pairs
  rw [List.take_add_one, h]
  simp
theorem pairs_more (ts : List (List UInt8)) (k : Nat) (t : List UInt8) (h : ts[k]? = some t) (ht : t ≠ []) : pairs (ts.take (k + 1)) = pairs (ts.take k) ++ [pairOf t] := by
  unfold pairs
  rw [List.take_add_one, h]
  simp [ht]
theorem pairs_le (ts : List (List UInt8)) : (pairs ts).length ≤ ts.length := by
  unfold pairs
  rw [List.length_map]
  exact List.length_filter_le _ _
theorem pairs_texts (ts : List (List UInt8)) : ∀ p ∈ pairs ts, Utf.isText p.1 = true ∧ Utf.isText p.2 = true := by
  intro p hp
  unfold pairs at hp
  rw [List.mem_map] at hp
  obtain ⟨t, _, rfl⟩ := hp
  exact ⟨read_text _, read_text _⟩
/-- Cut at the first byte of a kind. -/
theorem cut_at (t : List UInt8) (b : UInt8) (n : Nat) (h : t[n]? = some b) (hn : ∀ j, j < n → t[j]? ≠ some b) : Lib.cut t [b] = (t.take n, t.drop (n + 1), true) := by
  unfold Lib.cut
  rw [Lib.index_one]
  have hi : Lib.indexByte t b = n := by
    have hg := Lib.indexByte_ge t b
    rcases Int.lt_or_le (Lib.indexByte t b) 0 with hx | hx
    · exact absurd h (Lib.indexByte_none (by omega) n)
    · obtain ⟨h1, h2⟩ := Lib.indexByte_some (l := t) (c := b) (o := (Lib.indexByte t b).toNat) (by omega)
      rcases Nat.lt_trichotomy (Lib.indexByte t b).toNat n with hl | hl | hl
      · exact absurd h1 (hn _ hl)
      · omega
      · exact absurd h (h2 n hl)
  rw [hi, if_pos (by omega)]
  simp
theorem cut_none (t : List UInt8) (b : UInt8) (hn : ∀ j : Nat, t[j]? ≠ some b) : Lib.cut t [b] = (t, [], false) := by
  unfold Lib.cut
  rw [Lib.index_one]
  have hg := Lib.indexByte_ge t b
  rcases Int.lt_or_le (Lib.indexByte t b) 0 with hx | hx
  · rw [if_neg (by omega)]
  · obtain ⟨h1, _⟩ := Lib.indexByte_some (l := t) (c := b) (o := (Lib.indexByte t b).toNat) (by omega)
    exact absurd h1 (hn _)
theorem pair_text (p : Pr) (h1 : Utf.isText p.1 = true) (h2 : Utf.isText p.2 = true) : pairOf (text p) = p := by
  have hc : Lib.cut (text p) [61] = (part p.1, part p.2, true) := by
    have e1 : (text p)[(part p.1).length]? = some 61 := by
      unfold text
      rw [List.append_assoc, List.getElem?_append_right (Nat.le_refl _)]
      simp
    have e2 : ∀ j, j < (part p.1).length → (text p)[j]? ≠ some 61 := by
      intro j hj e
      unfold text at e
      rw [List.append_assoc, List.getElem?_append_left hj] at e
      exact (part_bytes p.1 61 (List.mem_of_getElem? e)).2 rfl
    rw [cut_at (text p) 61 _ e1 e2]
    unfold text
    simp
  unfold pairOf
  rw [hc, read_part _ h1, read_part _ h2]
theorem text_ne (p : Pr) : text p ≠ [] := by unfold text; simp
theorem text_38 (p : Pr) : ∀ c ∈ text p, c ≠ 38 := by
  intro c hc
  unfold text at hc
  simp only [List.mem_append, List.mem_singleton] at hc
  rcases hc with (hc | hc) | hc
  · exact (part_bytes _ c hc).1
  · subst hc; decide
  · exact (part_bytes _ c hc).1
/-- A text with no such byte goes on in the part under way. -/
theorem fold_free (b : UInt8) : ∀ (t : List UInt8) (st : List (List UInt8) × List UInt8), (∀ c ∈ t, c ≠ b) → t.foldl (Asc.sstep b) st = (st.1, st.2 ++ t)
  | [], st, _ => by simp
  | c :: t, st, h => by
    rw [List.foldl_cons, fold_free b t _ (fun x hx => h x (List.mem_cons_of_mem _ hx))]
    unfold Asc.sstep
    rw [if_neg (h c (List.mem_cons_self ..))]
    simp
theorem split_join (b : UInt8) (ts : List (List UInt8)) (h : ∀ t ∈ ts, ∀ c ∈ t, c ≠ b) (hn : ts ≠ []) : Asc.split (Lib.join ts [b]) b = ts := by
  have key : ∀ us : List (List UInt8), (∀ t ∈ us, ∀ c ∈ t, c ≠ b) → us ≠ [] → Asc.sst b (Lib.join us [b]) = (us.dropLast, us.getLastD []) := by
    intro us
    refine Asc.snoc_ind (P := fun us => (∀ t ∈ us, ∀ c ∈ t, c ≠ b) → us ≠ [] → Asc.sst b (Lib.join us [b]) = (us.dropLast, us.getLastD [])) ?_ ?_ us
    · intro _ hh; exact absurd rfl hh
    · intro us t ih hf _
      have hft : ∀ c ∈ t, c ≠ b := hf t (by simp)
      rw [Asc.join_snoc]
      by_cases hu : us = []
      · subst hu
        rw [if_pos rfl]
        unfold Asc.sst
        rw [fold_free b t _ hft]
        simp
      · rw [if_neg hu]
        have := ih (fun x hx => hf x (by simp [hx])) hu
        unfold Asc.sst at this ⊢
        rw [List.foldl_append, List.foldl_append, this, List.foldl_cons, List.foldl_nil, fold_free b t _ hft]
        unfold Asc.sstep
        rw [if_pos rfl]
        simp only [List.nil_append, List.dropLast_concat]
        rw [show us.dropLast ++ [us.getLastD []] = us from by
          cases us with
          | nil => exact absurd rfl hu
          | cons x r => rw [List.getLastD_cons, ← List.getLast_eq_getLastD]; exact List.dropLast_concat_getLast (by simp)]
        simp
  unfold Asc.split
  rw [key ts h hn]
  show ts.dropLast ++ [ts.getLastD []] = ts
  cases ts with
  | nil => exact absurd rfl hn
  | cons x r => rw [List.getLastD_cons, ← List.getLast_eq_getLastD]; exact List.dropLast_concat_getLast (by simp)
theorem parse_form (l : List Pr) (h : ∀ p ∈ l, Utf.isText p.1 = true ∧ Utf.isText p.2 = true) : parse (form l) = l := by
  unfold parse form
  by_cases hl : l = []
  · subst hl; rfl
  · rw [split_join 38 _ (by
      intro t ht
      rw [List.mem_map] at ht
      obtain ⟨p, _, rfl⟩ := ht
      exact text_38 p) (by simpa using hl)]
    unfold pairs
    rw [List.filter_eq_self.2 (by
      intro t ht
      rw [List.mem_map] at ht
      obtain ⟨p, _, rfl⟩ := ht
      simpa using text_ne p), List.map_map]
    conv => rhs; rw [← List.map_id l]
    apply List.map_congr_left
    intro p hp
    exact pair_text p (h p hp).1 (h p hp).2
theorem count_split (b : UInt8) (l : List UInt8) : (Asc.split l b).length = l.count b + 1 := by
  have : (Asc.sst b l).1.length = l.count b := by
    refine Asc.snoc_ind (P := fun l => (Asc.sst b l).1.length = l.count b) ?_ ?_ l
    · simp [Asc.sst]
    · intro l c ih
      rw [Asc.sst_snoc, List.count_append]
      unfold Asc.sstep
      by_cases hc : c = b
      · subst hc; simp [ih]
      · rw [if_neg hc]; simp [ih, hc]
  unfold Asc.split
  rw [List.length_append, this]
  rfl
theorem form_count (l : List Pr) : (form l).count 38 = l.length - 1 := by
  by_cases hl : l = []
  · subst hl; rfl
  · have := count_split 38 (form l)
    unfold form at this ⊢
    rw [split_join 38 _ (by
      intro t ht
      rw [List.mem_map] at ht
      obtain ⟨p, _, rfl⟩ := ht
      exact text_38 p) (by simpa using hl), List.length_map] at this
    omega
/-- One byte for another, by strings.ReplaceAll. -/
theorem replaceK_map (a b : UInt8) : ∀ (n : Nat) (l : List UInt8), l.length ≤ n → ∀ k, l.count a ≤ k → Lib.replaceK [a] [b] k l = turned l a b
  | 0, l, hn, k, hk => by
    have : l = [] := List.eq_nil_of_length_eq_zero (by omega)
    subst this
    cases k with
    | zero => rfl
    | succ k => simp [Lib.replaceK, Lib.index, turned]
  | n + 1, l, hn, k, hk => by
    have hnone : Lib.indexByte l a = -1 → turned l a b = l := by
      intro h
      unfold turned
      conv => rhs; rw [← List.map_id l]
      apply List.map_congr_left
      intro c hc
      have : c ≠ a := by
        rintro rfl
        obtain ⟨j, hj⟩ := List.mem_iff_getElem?.1 hc
        exact Lib.indexByte_none h j hj
      simp [this]
    have hg := Lib.indexByte_ge l a
    rcases Int.lt_or_le (Lib.indexByte l a) 0 with hx | hx
    · cases k with
      | zero => rw [Lib.replaceK, hnone (by omega)]
      | succ k => rw [Lib.replaceK, Lib.index_one, hnone (by omega), if_pos (by rw [beq_iff_eq]; omega)]
    · obtain ⟨h1, h2⟩ := Lib.indexByte_some (l := l) (c := a) (o := (Lib.indexByte l a).toNat) (by omega)
      obtain ⟨i, hi⟩ : ∃ i : Nat, Lib.indexByte l a = i := ⟨_, (Int.toNat_of_nonneg hx).symm⟩
      rw [hi, Int.toNat_natCast] at h1 h2
      have hil : i < l.length := (List.getElem?_eq_some_iff.1 h1).1
      have hparts : l = l.take i ++ a :: l.drop (i + 1) := by
        have e : l[i] = a := (List.getElem?_eq_some_iff.1 h1).2
        rw [← e, ← List.drop_eq_getElem_cons hil, List.take_append_drop]
      have hcnt : (l.drop (i + 1)).count a + 1 ≤ l.count a := by
        conv => rhs; rw [hparts]
        rw [List.count_append, List.count_cons_self]
        omega
      cases k with
      | zero => omega
      | succ k =>
        rw [Lib.replaceK_hit _ _ _ _ i (by rw [Lib.index_one]; exact hi), replaceK_map a b n _ (by simp; omega) k (by simp only [List.length_singleton]; omega)]
        conv => rhs; rw [hparts]
        unfold turned
        rw [List.map_append, List.map_cons, if_pos rfl]
        have : (l.take i).map (fun c => if c = a then b else c) = l.take i := by
          conv => rhs; rw [← List.map_id (l.take i)]
          apply List.map_congr_left
          intro c hc
          have : c ≠ a := by
            rintro rfl
            obtain ⟨j, hj⟩ := List.mem_iff_getElem?.1 hc
            have hji : j < i := by
              have := (List.getElem?_eq_some_iff.1 hj).1
              rw [List.length_take] at this
              omega
            rw [List.getElem?_take_of_lt hji] at hj
            exact h2 j hji hj
          simp [this]
        rw [this]
        simp
theorem replaceAll_map (a b : UInt8) (hab : a ≠ b) (l : List UInt8) : Lib.replaceAll l [a] [b] = turned l a b := by
  unfold Lib.replaceAll Lib.replace
  rw [if_neg (by simpa using hab)]
  refine replaceK_map a b _ l (Nat.le_refl _) _ ?_
  unfold Lib.replaceNum
  rw [if_pos (.inl (by omega)), Lib.count_one]
  exact Nat.le_refl _
end Pct
