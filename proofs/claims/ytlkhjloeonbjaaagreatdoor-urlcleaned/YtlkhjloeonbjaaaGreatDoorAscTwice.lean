/- Plain facts: to lower twice is once; trimmed and squeezed, too; words have no blanks. -/
import Derived.Test.YtlkhjloeonbjaaaGreatDoorAscHex
import Derived.Test.YtlkhjloeonbjaaaGreatDoorAscTrim
import Derived.Test.YtlkhjloeonbjaaaGreatDoorAscJoin
namespace Asc
open Go
theorem lowerC_twice (c : UInt8) : lowerC (lowerC c) = lowerC c := by
  unfold lowerC
  by_cases h : 65 ≤ c ∧ c ≤ 90
  · rw [if_pos h, if_neg]
    intro h2
    have h3 := h.1
    have h4 := h.2
    have h5 := h2.2
    rw [UInt8.le_iff_toNat_le] at h3 h4 h5
    rw [UInt8.toNat_add] at h5
    have e1 : (65 : UInt8).toNat = 65 := rfl
    have e2 : (90 : UInt8).toNat = 90 := rfl
    have e3 : (32 : UInt8).toNat = 32 := rfl
    omega
  · rw [if_neg h, if_neg h]
theorem lower_twice (l : List UInt8) : lower (lower l) = lower l := by
  unfold lower
  rw [List.map_map]
  apply List.map_congr_left
  intro c _
  exact lowerC_twice c
/-- No blank in it. -/
def Bare (l : List UInt8) : Prop := ∀ c ∈ l, isBlank c = false
theorem wst_bare (l : List UInt8) : (∀ w ∈ (wst l).1, w ≠ [] ∧ Bare w) ∧ Bare (wst l).2 := by
  refine snoc_ind (P := fun l => (∀ w ∈ (wst l).1, w ≠ [] ∧ Bare w) ∧ Bare (wst l).2) ?_ ?_ l
  · exact ⟨by simp [wst], by intro c hc; simp [wst] at hc⟩
  · rintro l c ⟨h1, h2⟩
    rw [wst_snoc]
    unfold wstep
    by_cases hb : isBlank c = true
    · rw [if_pos hb]
      by_cases he : (wst l).2.isEmpty = true
      · rw [if_pos he]
        exact ⟨h1, by intro c hc; cases hc⟩
      · rw [if_neg he]
        refine ⟨?_, by intro c hc; cases hc⟩
        intro w hw
        rcases List.mem_append.1 hw with hw | hw
        · exact h1 w hw
        · rw [List.mem_singleton] at hw
          subst hw
          exact ⟨by intro e; rw [e] at he; exact he rfl, h2⟩
    · rw [if_neg hb]
      refine ⟨h1, ?_⟩
      intro x hx
      rcases List.mem_append.1 hx with hx | hx
      · exact h2 x hx
      · rw [List.mem_singleton] at hx
        subst hx
        simpa using hb
theorem words_bare (l : List UInt8) : ∀ w ∈ words l, w ≠ [] ∧ Bare w := by
  obtain ⟨h1, h2⟩ := wst_bare l
  unfold words wfin
  split
  · exact h1
  · rename_i he
    intro w hw
    rcases List.mem_append.1 hw with hw | hw
    · exact h1 w hw
    · rw [List.mem_singleton] at hw
      subst hw
      exact ⟨by intro e; rw [e] at he; exact he rfl, h2⟩
/-- A word under way goes on. -/
theorem fold_bare (l : List UInt8) (h : Bare l) : ∀ st : List (List UInt8) × List UInt8, l.foldl wstep st = (st.1, st.2 ++ l) := by
  induction l with
  | nil => intro st; simp
  | cons c r ih =>
    intro st
    have hc := h c List.mem_cons_self
    rw [List.foldl_cons, ih (fun x hx => h x (List.mem_cons_of_mem _ hx)), wstep, hc]
    simp
theorem words_one (w : List UInt8) (hn : w ≠ []) (h : Bare w) : words w = [w] := by
  unfold words wst
  rw [fold_bare w h]
  simp [wfin, hn]
theorem trimL_bare (w : List UInt8) (h : Bare w) : trimL w = w := by
  cases w with
  | nil => rfl
  | cons c r => exact List.dropWhile_cons_of_neg (by rw [h c List.mem_cons_self]; decide)
theorem trimR_bare (w : List UInt8) (h : Bare w) : trimR w = w := by
  unfold trimR
  have hb : Bare w.reverse := fun c hc => h c (List.mem_reverse.1 hc)
  have e : w.reverse.dropWhile isBlank = w.reverse := trimL_bare w.reverse hb
  rw [e, List.reverse_reverse]
theorem trim_bare (w : List UInt8) (h : Bare w) : trim w = w := by
  unfold trim
  rw [trimL_bare w h, trimR_bare w h]
/-- The words behind a joined list of words: they are that list. -/
theorem fold_tail (r : List (List UInt8)) (h : ∀ w ∈ r, w ≠ [] ∧ Bare w) : ∀ (ts : List (List UInt8)) (t : List UInt8), t ≠ [] → wfin ((Lib.joinTail [32] r).foldl wstep (ts, t)) = ts ++ t :: r := by
  induction r with
  | nil =>
    intro ts t ht
    simp [Lib.joinTail, wfin, ht]
  | cons w r ih =>
    intro ts t ht
    obtain ⟨h1, h2⟩ := h w List.mem_cons_self
    have e : Lib.joinTail [32] (w :: r) = 32 :: (w ++ Lib.joinTail [32] r) := by simp [Lib.joinTail]
    rw [e, List.foldl_cons, List.foldl_append, fold_bare w h2]
    have e2 : wstep (ts, t) 32 = (ts ++ [t], []) := by
      unfold wstep
      rw [if_pos (by decide), if_neg (by simpa using ht)]
    rw [e2, List.nil_append, ih (fun x hx => h x (List.mem_cons_of_mem _ hx)) (ts ++ [t]) w h1]
    simp
theorem words_join (ws : List (List UInt8)) (h : ∀ w ∈ ws, w ≠ [] ∧ Bare w) : words (Lib.join ws [32]) = ws := by
  cases ws with
  | nil => rfl
  | cons w r =>
    obtain ⟨h1, h2⟩ := h w List.mem_cons_self
    rw [Lib.join_cons]
    unfold words wst
    rw [List.foldl_append, fold_bare w h2, List.nil_append, fold_tail r (fun x hx => h x (List.mem_cons_of_mem _ hx)) [] w h1]
    rfl
theorem words_squeeze (l : List UInt8) : words (squeeze l) = words l := words_join _ (words_bare l)
theorem squeeze_twice (l : List UInt8) : squeeze (squeeze l) = squeeze l := by
  show Lib.join (words (squeeze l)) [32] = Lib.join (words l) [32]
  rw [words_squeeze]
/-- Neither its first byte nor its last is a blank. -/
theorem trimL_head (l : List UInt8) (h : ∀ c, l.head? = some c → isBlank c = false) : trimL l = l := by
  cases l with
  | nil => rfl
  | cons c r => exact List.dropWhile_cons_of_neg (by rw [h c rfl]; decide)
theorem trimR_last (l : List UInt8) (h : ∀ c, l.getLast? = some c → isBlank c = false) : trimR l = l := by
  unfold trimR
  have e : l.reverse.dropWhile isBlank = l.reverse := trimL_head l.reverse (fun c hc => h c (by rw [List.head?_reverse] at hc; exact hc))
  rw [e, List.reverse_reverse]
theorem head_bare (w r : List UInt8) (hn : w ≠ []) (h : Bare w) : ∀ c, (w ++ r).head? = some c → isBlank c = false := by
  intro c hc
  cases w with
  | nil => exact absurd rfl hn
  | cons x y =>
    simp at hc
    subst hc
    exact h x List.mem_cons_self
theorem last_tail (r : List (List UInt8)) (h : ∀ w ∈ r, w ≠ [] ∧ Bare w) : ∀ a : List UInt8, a ≠ [] → (∀ c, a.getLast? = some c → isBlank c = false) → ∀ c, (a ++ Lib.joinTail [32] r).getLast? = some c → isBlank c = false := by
  induction r with
  | nil => intro a _ ha c hc; simp [Lib.joinTail] at hc; exact ha c hc
  | cons w r ih =>
    intro a han ha c hc
    obtain ⟨h1, h2⟩ := h w List.mem_cons_self
    have e : a ++ Lib.joinTail [32] (w :: r) = (a ++ 32 :: w) ++ Lib.joinTail [32] r := by simp [Lib.joinTail]
    rw [e] at hc
    refine ih (fun x hx => h x (List.mem_cons_of_mem _ hx)) (a ++ 32 :: w) (by simp) ?_ c hc
    intro d hd
    rw [show a ++ 32 :: w = (a ++ [32]) ++ w from by simp, List.getLast?_append] at hd
    cases hl : w.getLast? with
    | none => exact absurd (List.getLast?_eq_none_iff.1 hl) h1
    | some x =>
      rw [hl] at hd
      simp at hd
      subst hd
      exact h2 x (List.mem_of_getLast? hl)
theorem trim_squeeze (l : List UInt8) : trim (squeeze l) = squeeze l := by
  have hw := words_bare l
  unfold squeeze
  cases he : words l with
  | nil => rfl
  | cons w r =>
    rw [he] at hw
    obtain ⟨h1, h2⟩ := hw w List.mem_cons_self
    unfold trim
    rw [Lib.join_cons, trimL_head _ (head_bare w _ h1 h2)]
    exact trimR_last _ (last_tail r (fun x hx => hw x (List.mem_cons_of_mem _ hx)) w h1 (fun c hc => h2 c (List.mem_of_getLast? hc)))
theorem trimR_prefix (l : List UInt8) : ∃ r, l = trimR l ++ r := by
  unfold trimR
  have := List.takeWhile_append_dropWhile (p := isBlank) (l := l.reverse)
  refine ⟨(l.reverse.takeWhile isBlank).reverse, ?_⟩
  rw [← List.reverse_append, this, List.reverse_reverse]
theorem trimL_idem (l : List UInt8) : ∀ c, (trimL l).head? = some c → isBlank c = false := by
  intro c hc
  unfold trimL at hc
  have := List.head?_dropWhile_not isBlank l
  rw [hc] at this
  simpa using this
theorem trimR_last_ok (l : List UInt8) : ∀ c, (trimR l).getLast? = some c → isBlank c = false := by
  intro c hc
  unfold trimR at hc
  rw [List.getLast?_reverse] at hc
  exact trimL_idem l.reverse c hc
theorem trim_twice (l : List UInt8) : trim (trim l) = trim l := by
  show trimR (trimL (trim l)) = trim l
  have h1 : trimL (trim l) = trim l := by
    apply trimL_head
    intro c hc
    obtain ⟨r, hr⟩ := trimR_prefix (trimL l)
    apply trimL_idem l c
    rw [hr]
    have : (trimR (trimL l)).head? = some c := hc
    cases ht : trimR (trimL l) with
    | nil => rw [ht] at this; cases this
    | cons x y => rw [ht] at this; simpa using this
  rw [h1]
  exact trimR_last _ (trimR_last_ok (trimL l))
end Asc
