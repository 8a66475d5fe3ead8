/- The document's words for URLs, as plain functions on lists of bytes: cleaned texts, marks for a path, a query, a fragment, parts, dots, paths. -/
import Derived.Test.YtlkhjloeonbjaaaGreatDoorPctMath
import Derived.Test.YtlkhjloeonbjaaaGreatDoorAscTwice
import Derived.Test.YtlkhjloeonbjaaaGreatDoorUrlTrim
namespace Url
open Go
def inner (c : UInt8) : Bool := !(c == 9 || c == 10 || c == 13)
def clean (l : List UInt8) : List UInt8 := (ends l).filter inner
theorem rtrim_prefix (l : List UInt8) : ∃ r, l = rtrim l ++ r := by
  refine ⟨(l.reverse.takeWhile low).reverse, ?_⟩
  unfold rtrim
  rw [← List.reverse_append, List.takeWhile_append_dropWhile, List.reverse_reverse]
theorem head_drop (l : List UInt8) : ∀ c, (l.dropWhile low).head? = some c → low c = false := by
  intro c h
  have := List.head?_dropWhile_not low l
  rw [h] at this
  simpa using this
theorem head_ends (l : List UInt8) : ∀ c, (ends l).head? = some c → low c = false := by
  intro c h
  obtain ⟨r, hr⟩ := rtrim_prefix (l.dropWhile low)
  apply head_drop l
  rw [hr]
  unfold ends at h
  cases hx : rtrim (l.dropWhile low) with
  | nil => rw [hx] at h; simp at h
  | cons a t => rw [hx] at h; simpa using h
theorem last_ends (l : List UInt8) : ∀ c, (ends l).getLast? = some c → low c = false := by
  intro c h
  unfold ends rtrim at h
  rw [List.getLast?_reverse] at h
  exact head_drop _ c h
theorem drop_self (l : List UInt8) (h : ∀ c, l.head? = some c → low c = false) : l.dropWhile low = l := by
  cases l with
  | nil => rfl
  | cons a t => rw [List.dropWhile_cons_of_neg]; rw [h a rfl]; decide
theorem rtrim_self (l : List UInt8) (h : ∀ c, l.getLast? = some c → low c = false) : rtrim l = l := by
  unfold rtrim
  rw [drop_self _ (by rw [List.head?_reverse]; exact h), List.reverse_reverse]
theorem ends_self (l : List UInt8) (h1 : ∀ c, l.head? = some c → low c = false) (h2 : ∀ c, l.getLast? = some c → low c = false) : ends l = l := by
  unfold ends
  rw [drop_self l h1, rtrim_self l h2]
theorem inner_of {c : UInt8} (h : low c = false) : inner c = true := by
  have : ¬ c.toNat ≤ 32 := of_decide_eq_false h
  unfold inner
  have h9 : (c == 9) = false := beq_eq_false_iff_ne.2 (by rintro rfl; simp at this)
  have h10 : (c == 10) = false := beq_eq_false_iff_ne.2 (by rintro rfl; simp at this)
  have h13 : (c == 13) = false := beq_eq_false_iff_ne.2 (by rintro rfl; simp at this)
  rw [h9, h10, h13]
  rfl
theorem filter_head (l : List UInt8) (h : ∀ c, l.head? = some c → low c = false) : ∀ c, (l.filter inner).head? = some c → low c = false := by
  intro c hc
  cases l with
  | nil => simp at hc
  | cons a t =>
    rw [List.filter_cons_of_pos (inner_of (h a rfl))] at hc
    exact h c (by simpa using hc)
theorem filter_last (l : List UInt8) (h : ∀ c, l.getLast? = some c → low c = false) : ∀ c, (l.filter inner).getLast? = some c → low c = false := by
  intro c hc
  rw [← List.head?_reverse, ← List.filter_reverse] at hc
  exact filter_head l.reverse (by rw [List.head?_reverse]; exact h) c hc
theorem clean_clean (l : List UInt8) : clean (clean l) = clean l := by
  unfold clean
  rw [ends_self _ (filter_head _ (head_ends l)) (filter_last _ (last_ends l)), List.filter_filter]
  simp
theorem ends_len (l : List UInt8) : (ends l).length ≤ l.length := by
  obtain ⟨r, hr⟩ := rtrim_prefix (l.dropWhile low)
  have h1 : (l.dropWhile low).length = (ends l).length + r.length := by rw [hr, List.length_append]; rfl
  have h2 := (List.dropWhile_sublist low (l := l)).length_le
  omega
theorem clean_len (l : List UInt8) : (clean l).length ≤ l.length := Nat.le_trans (List.length_filter_le _ _) (ends_len l)
/-- What has bytes above 32 alone is cleaned. -/
theorem clean_high (l : List UInt8) (h : ∀ c ∈ l, 32 < c.toNat) : clean l = l := by
  have hl : ∀ c ∈ l, low c = false := fun c hc => decide_eq_false (by have := h c hc; omega)
  unfold clean
  rw [ends_self l (fun c hc => hl c (List.mem_of_mem_head? (by rw [hc]; rfl))) (fun c hc => hl c (List.mem_of_getLast? hc))]
  exact List.filter_eq_self.2 fun c hc => inner_of (hl c hc)
def slash (c : UInt8) : Bool := c == 47 || c == 92
def freeP : List UInt8 := [33, 36, 37, 38, 40, 41, 42, 43, 44, 47, 58, 59, 61, 64, 91, 92, 93, 94, 124, 39]
def freeQ : List UInt8 := [33, 36, 37, 38, 40, 41, 42, 43, 44, 47, 58, 59, 61, 64, 91, 92, 93, 94, 124, 63, 96, 123, 125]
def freeF : List UInt8 := [33, 36, 37, 38, 40, 41, 42, 43, 44, 47, 58, 59, 61, 64, 91, 92, 93, 94, 124, 39, 35, 63, 123, 125]
def moreP : List UInt8 := [35, 63, 96, 123, 125]
def moreQ : List UInt8 := [35, 39]
def moreF : List UInt8 := [96]
/-- A byte that stands as its mark. -/
def marks (more : List UInt8) (c : UInt8) : Bool := decide (c.toNat ≤ 32) || decide (126 < c.toNat) || [34, 60, 62].contains c || more.contains c
theorem stays_P : ∀ c, Pct.stays freeP c = !marks moreP c := Pct.bytes (by decide +kernel)
theorem stays_Q : ∀ c, Pct.stays freeQ c = !marks moreQ c := Pct.bytes (by decide +kernel)
theorem stays_F : ∀ c, Pct.stays freeF c = !marks moreF c := Pct.bytes (by decide +kernel)
theorem alone_P : ∀ c, marks moreP c = true → Pct.mark [] [c] = Pct.mk c := Pct.bytes (by decide +kernel)
theorem alone_Q : ∀ c, marks moreQ c = true → Pct.mark [] [c] = Pct.mk c := Pct.bytes (by decide +kernel)
theorem alone_F : ∀ c, marks moreF c = true → Pct.mark [] [c] = Pct.mk c := Pct.bytes (by decide +kernel)
/-- The bytes of a mark. -/
theorem mk_bytes : ∀ c, ∀ b ∈ Pct.mk c, b = 37 ∨ (48 ≤ b.toNat ∧ b.toNat ≤ 57) ∨ (65 ≤ b.toNat ∧ b.toNat ≤ 70) := Pct.bytes (by decide +kernel)
theorem mk_stay (free : List UInt8) (h : free.contains 37 = true) (c : UInt8) : ∀ b ∈ Pct.mk c, Pct.stays free b = true := by
  intro b hb
  unfold Pct.stays Pct.plain Pct.plainN
  rcases mk_bytes c b hb with rfl | h1 | h1
  · rw [h]; simp
  · simp only [Bool.or_eq_true, decide_eq_true_eq]; left; right; omega
  · simp only [Bool.or_eq_true, decide_eq_true_eq]; left; left; right; omega
/-- What is marked has bytes that stay alone, and stays so. -/
theorem mark_stay (free : List UInt8) (h : free.contains 37 = true) : ∀ l : List UInt8, ∀ b ∈ Pct.mark free l, Pct.stays free b = true
  | [], b, hb => by simp [Pct.mark] at hb
  | c :: l, b, hb => by
    rw [Pct.mark_cons, List.mem_append] at hb
    rcases hb with hb | hb
    · cases hs : Pct.stays free c
      · rw [Pct.one_no hs] at hb
        exact mk_stay free h c b hb
      · rw [Pct.one_yes hs, List.mem_singleton] at hb
        rw [hb]
        exact hs
    · exact mark_stay free h l b hb
theorem mark_self (free : List UInt8) : ∀ l : List UInt8, (∀ b ∈ l, Pct.stays free b = true) → Pct.mark free l = l
  | [], _ => rfl
  | c :: l, h => by
    rw [Pct.mark_cons, Pct.one_yes (h c (List.mem_cons_self ..)), mark_self free l (fun b hb => h b (List.mem_cons_of_mem _ hb))]
    rfl
theorem mark_append (free a b : List UInt8) : Pct.mark free (a ++ b) = Pct.mark free a ++ Pct.mark free b := by simp [Pct.mark]
/-- A split text, marked part by part. -/
theorem one_47 (c : UInt8) (h : c ≠ 47) : ∀ b ∈ Pct.one freeP c, b ≠ 47 := by
  intro b hb
  cases hs : Pct.stays freeP c
  · rw [Pct.one_no hs] at hb
    rcases mk_bytes c b hb with rfl | h1 | h1
    · decide
    · rintro rfl; simp at h1
    · rintro rfl; simp at h1
  · rw [Pct.one_yes hs, List.mem_singleton] at hb
    rw [hb]
    exact h
theorem one_is47 : Pct.one freeP 47 = [47] := by decide +kernel
theorem sst_mark (l : List UInt8) : Asc.sst 47 (Pct.mark freeP l) = ((Asc.sst 47 l).1.map (Pct.mark freeP), Pct.mark freeP (Asc.sst 47 l).2) := by
  refine Asc.snoc_ind (P := fun l => Asc.sst 47 (Pct.mark freeP l) = ((Asc.sst 47 l).1.map (Pct.mark freeP), Pct.mark freeP (Asc.sst 47 l).2)) ?_ ?_ l
  · rfl
  · intro l c ih
    rw [mark_append, Asc.sst_snoc]
    have h1 : Pct.mark freeP [c] = Pct.one freeP c := by simp [Pct.mark]
    rw [h1]
    unfold Asc.sst at ih ⊢
    rw [List.foldl_append, ih]
    by_cases hc : c = 47
    · subst hc
      rw [one_is47]
      simp [Asc.sstep, Pct.mark]
    · rw [Pct.fold_free 47 _ _ (one_47 c hc)]
      unfold Asc.sstep
      rw [if_neg hc]
      simp [mark_append, h1]
theorem split_mark (l : List UInt8) : Asc.split (Pct.mark freeP l) 47 = (Asc.split l 47).map (Pct.mark freeP) := by
  unfold Asc.split
  rw [sst_mark]
  simp
/-- Of how many dots a text is; none, if of anything else. -/
def cnt : List UInt8 → Option Nat
  | [] => some 0
  | [a] => if a = 46 then some 1 else none
  | [a, b] => if a = 46 then (cnt [b]).map (· + 1) else none
  | a :: b :: c :: r => if a = 46 then (cnt (b :: c :: r)).map (· + 1) else if Asc.lowerC a = 37 ∧ Asc.lowerC b = 50 ∧ Asc.lowerC c = 101 then (cnt r).map (· + 1) else none
def dots (l : List UInt8) : Nat := match cnt l with | some 1 => 1 | some 2 => 2 | _ => 0
theorem cnt_dot (r : List UInt8) : cnt (46 :: r) = (cnt r).map (· + 1) := by
  match r with
  | [] => rfl
  | [b] => rfl
  | b :: c :: r => rw [cnt, if_pos rfl]
theorem cnt_mark (a b c : UInt8) (r : List UInt8) (h0 : a ≠ 46) (h : Asc.lowerC a = 37 ∧ Asc.lowerC b = 50 ∧ Asc.lowerC c = 101) : cnt (a :: b :: c :: r) = (cnt r).map (· + 1) := by
  rw [cnt, if_neg h0, if_pos h]
theorem cnt_none (a : UInt8) (r : List UInt8) (h0 : a ≠ 46) (h : ¬ Asc.lower ((a :: r).take 3) = [37, 50, 101]) : cnt (a :: r) = none := by
  match r with
  | [] => rw [cnt, if_neg h0]
  | [b] => rw [cnt, if_neg h0]
  | b :: c :: r =>
    rw [cnt, if_neg h0, if_neg]
    intro hh
    apply h
    simp [Asc.lower, hh.1, hh.2.1, hh.2.2]
/-- %2e to a dot, from the left. -/
def undot : List UInt8 → List UInt8
  | [] => []
  | [a] => [a]
  | [a, b] => [a, b]
  | a :: b :: c :: r => if a = 37 ∧ b = 50 ∧ c = 101 then 46 :: undot r else a :: undot (b :: c :: r)
theorem undot_hit (r : List UInt8) : undot (37 :: 50 :: 101 :: r) = 46 :: undot r := by rw [undot, if_pos ⟨rfl, rfl, rfl⟩]
theorem undot_miss (a : UInt8) (r : List UInt8) (h : [37, 50, 101].isPrefixOf (a :: r) = false) : undot (a :: r) = a :: undot r := by
  match r with
  | [] => rfl
  | [b] => rfl
  | b :: c :: r =>
    rw [undot, if_neg]
    rintro ⟨rfl, rfl, rfl⟩
    simp [List.isPrefixOf] at h
theorem undot_take (t : List UInt8) (i : Nat) (h : Lib.NoOcc t [37, 50, 101] i) (hi : i ≤ t.length) : undot t = t.take i ++ undot (t.drop i) := by
  induction i generalizing t with
  | zero => simp
  | succ i ih =>
    cases t with
    | nil => simp at hi
    | cons a r =>
      have h0 : [37, 50, 101].isPrefixOf (a :: r) = false := by simpa [Lib.occAt] using h 0 (by omega)
      rw [undot_miss a r h0, ih r (fun j hj => by simpa [Lib.occAt] using h (j + 1) (by omega)) (by simpa using hi)]
      rfl
theorem occ_drop (t : List UInt8) (i : Nat) (h : Lib.occAt t [37, 50, 101] i = true) : t.drop i = 37 :: 50 :: 101 :: t.drop (i + 3) := by
  unfold Lib.occAt at h
  rw [List.isPrefixOf_iff_prefix] at h
  obtain ⟨r, hr⟩ := h
  rw [← List.drop_drop, ← hr]
  rfl
theorem undot_none (t : List UInt8) (h : ∀ j, j ≤ t.length → Lib.occAt t [37, 50, 101] j = false) : undot t = t := by
  have := undot_take t t.length (fun j hj => h j (by omega)) (Nat.le_refl _)
  rw [this, List.take_length, List.drop_length]
  simp [undot]
theorem replaceK_undot : ∀ (n : Nat) (t : List UInt8) (k : Nat), t.length ≤ n → Lib.countFrom [37, 50, 101] (t.length + 1) t ≤ k → Lib.replaceK [37, 50, 101] [46] k t = undot t
  | n, t, k, hn, hk => by
    rcases Lib.index_spec t [37, 50, 101] with ⟨h1, h2⟩ | ⟨i, h1, h2, h3, h4⟩
    · rw [undot_none t h2]
      cases k with
      | zero => rfl
      | succ k => rw [Lib.replaceK, h1]; rfl
    · have hd := occ_drop t i h3
      have hl : i + 3 ≤ t.length := by
        have := congrArg List.length hd
        simp at this
        omega
      have hu : undot t = t.take i ++ [46] ++ undot (t.drop (i + 3)) := by
        rw [undot_take t i h4 h2, hd, undot_hit]
        simp
      cases n with
      | zero => omega
      | succ n =>
        rw [Lib.countFrom, h1] at hk
        have hne : ((i : Int) == -1) = false := by rw [beq_eq_false_iff_ne]; omega
        rw [hne] at hk
        simp only [Bool.false_eq_true, if_false, Int.toNat_natCast] at hk
        change 1 + Lib.countFrom [37, 50, 101] t.length (t.drop (i + 3)) ≤ k at hk
        cases k with
        | zero => omega
        | succ k =>
          rw [Lib.replaceK_hit _ _ _ _ i h1, hu]
          congr 1
          refine replaceK_undot n (t.drop (i + 3)) k (by rw [List.length_drop]; omega) ?_
          have hm : Lib.countFrom [37, 50, 101] ((t.drop (i + 3)).length + 1) (t.drop (i + 3)) = Lib.countFrom [37, 50, 101] t.length (t.drop (i + 3)) := count_fuel _ _ _ (Nat.lt_succ_self _) (by rw [List.length_drop]; omega)
          rw [hm]
          omega
where
  count_fuel (t : List UInt8) : ∀ (f g : Nat), t.length < f → t.length < g → Lib.countFrom [37, 50, 101] f t = Lib.countFrom [37, 50, 101] g t
  | 0, _, h, _ => by omega
  | _ + 1, 0, _, h => by omega
  | f + 1, g + 1, hf, hg => by
    rw [Lib.countFrom, Lib.countFrom]
    rcases Lib.index_spec t [37, 50, 101] with ⟨h1, _⟩ | ⟨i, h1, h2, h3, h4⟩
    · rw [h1]; rfl
    · have hd := occ_drop t i h3
      have hl : i + 3 ≤ t.length := by
        have := congrArg List.length hd
        simp at this
        omega
      rw [h1]
      split
      · rfl
      · congr 1
        exact count_fuel _ f g (by simp; omega) (by simp; omega)
theorem replaceAll_undot (t : List UInt8) : Lib.replaceAll t [37, 50, 101] [46] = undot t := by
  unfold Lib.replaceAll Lib.replace Lib.replaceNum
  rw [if_neg (by decide), if_pos (.inl (by decide))]
  exact replaceK_undot t.length t _ (Nat.le_refl _) (Nat.le_refl _)
theorem lowerC_46 : ∀ c : UInt8, Asc.lowerC c = 46 ↔ c = 46 := Pct.bytes (by decide +kernel)
theorem lowerC_37 : ∀ c : UInt8, Asc.lowerC c = 37 → c ≠ 46 := Pct.bytes (by decide +kernel)
theorem undot_cnt : ∀ (m : Nat) (l : List UInt8) (n : Nat), l.length ≤ m → (undot (Asc.lower l) = List.replicate n 46 ↔ cnt l = some n)
  | _, [], n, _ => by
    cases n with
    | zero => simp [undot, cnt, Asc.lower]
    | succ n => simp [undot, cnt, Asc.lower, List.replicate]
  | 0, a :: r, n, h => by simp at h
  | m + 1, a :: r, n, h => by
    by_cases ha : a = 46
    · subst ha
      have hp : [37, 50, 101].isPrefixOf (Asc.lower (46 :: r)) = false := by simp [Asc.lower, List.isPrefixOf]; intro h37; exact absurd h37 (by decide)
      have : undot (Asc.lower (46 :: r)) = 46 :: undot (Asc.lower r) := undot_miss _ _ hp
      rw [this, cnt_dot]
      cases n with
      | zero => cases cnt r <;> simp
      | succ n =>
        have ih := undot_cnt m r n (by simpa using h)
        rw [List.replicate_succ, List.cons.injEq]
        simp only [true_and]
        rw [ih]
        cases cnt r <;> simp
    · by_cases hh : Asc.lower ((a :: r).take 3) = [37, 50, 101]
      · match r with
        | [] => simp [Asc.lower] at hh
        | [b] => simp [Asc.lower] at hh
        | b :: c :: r =>
          simp [Asc.lower] at hh
          obtain ⟨h1, h2, h3⟩ := hh
          rw [cnt_mark a b c r ha ⟨h1, h2, h3⟩]
          have : undot (Asc.lower (a :: b :: c :: r)) = 46 :: undot (Asc.lower r) := by
            show undot (Asc.lowerC a :: Asc.lowerC b :: Asc.lowerC c :: Asc.lower r) = _
            rw [h1, h2, h3, undot_hit]
          rw [this]
          cases n with
          | zero => cases cnt r <;> simp
          | succ n =>
            have ih := undot_cnt m r n (by simp at h; omega)
            rw [List.replicate_succ, List.cons.injEq]
            simp only [true_and]
            rw [ih]
            cases cnt r <;> simp
      · rw [cnt_none a r ha hh]
        have hp : [37, 50, 101].isPrefixOf (Asc.lowerC a :: Asc.lower r) = false := by
          rw [Bool.eq_false_iff]
          intro hp
          apply hh
          rw [List.isPrefixOf_iff_prefix] at hp
          obtain ⟨t, ht⟩ := hp
          have : Asc.lower ((a :: r).take 3) = (Asc.lowerC a :: Asc.lower r).take 3 := by
            show ((a :: r).take 3).map Asc.lowerC = _
            rw [List.map_take]
            rfl
          rw [this, ← ht]
          rfl
        have : undot (Asc.lower (a :: r)) = Asc.lowerC a :: undot (Asc.lower r) := undot_miss _ _ hp
        rw [this]
        constructor
        · intro e
          cases n with
          | zero => simp at e
          | succ n =>
            rw [List.replicate_succ, List.cons.injEq] at e
            exact absurd ((lowerC_46 a).1 e.1) ha
        · intro e
          cases e
/-- The program's dots. -/
theorem dots_undot (l : List UInt8) : dots l = if undot (Asc.lower l) = [46] then 1 else if undot (Asc.lower l) = [46, 46] then 2 else 0 := by
  have h1 := undot_cnt l.length l 1 (Nat.le_refl _)
  have h2 := undot_cnt l.length l 2 (Nat.le_refl _)
  have e1 : List.replicate 1 (46 : UInt8) = [46] := rfl
  have e2 : List.replicate 2 (46 : UInt8) = [46, 46] := rfl
  rw [e1] at h1
  rw [e2] at h2
  unfold dots
  by_cases c1 : undot (Asc.lower l) = [46]
  · rw [if_pos c1, h1.1 c1]; rfl
  · rw [if_neg c1]
    by_cases c2 : undot (Asc.lower l) = [46, 46]
    · rw [if_pos c2, h2.1 c2]; rfl
    · rw [if_neg c2]
      have n1 : cnt l ≠ some 1 := fun e => c1 (h1.2 e)
      have n2 : cnt l ≠ some 2 := fun e => c2 (h2.2 e)
      split
      · contradiction
      · contradiction
      · rfl
end Url
