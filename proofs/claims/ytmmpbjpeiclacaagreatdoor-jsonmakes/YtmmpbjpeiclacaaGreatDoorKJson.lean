/- Texts laid as one. -/
import Derived.Test.YtmmpbjpeiclacaaGreatDoorKMath
/- JSON values and their texts as plain functions: numbers. -/
set_option linter.unusedVariables false
namespace Jsn
open Asc
def dgB (c : UInt8) : Bool := isDig (bt c)
/-- Signs of numbers. -/
def numC (c : UInt8) : Bool := dgB c || c == 45 || c == 43 || c == 46 || c == 101 || c == 69
/-- What is behind the digits that a text begins with. -/
def digs (l : List UInt8) : List UInt8 := l.dropWhile dgB
def digR (l : List UInt8) : List UInt8 × Bool := (digs l, decide ((digs l).length < l.length))
/-- Begins a text with one of these? -/
def starts (f : UInt8 → Bool) (l : List UInt8) : Bool := match l with
  | [] => false
  | c :: _ => f c
def isDot (c : UInt8) : Bool := c == 46
def isExp (c : UInt8) : Bool := c == 101 || c == 69
def isSgn (c : UInt8) : Bool := c == 43 || c == 45
def isMin (c : UInt8) : Bool := c == 45
def isNul (c : UInt8) : Bool := c == 48
def cutIf (f : UInt8 → Bool) (l : List UInt8) : List UInt8 := if starts f l = true then l.tail else l
def intR (l : List UInt8) : List UInt8 × Bool := if starts isNul l = true then (l.tail, true) else digR l
def fracR (p : List UInt8 × Bool) : List UInt8 × Bool := if p.2 = true ∧ starts isDot p.1 = true then digR p.1.tail else p
def expR (p : List UInt8 × Bool) : List UInt8 × Bool := if p.2 = true ∧ starts isExp p.1 = true then digR (cutIf isSgn p.1.tail) else p
/-- What is left behind a number that a text begins with, and whether it is a whole one. -/
def numR (l : List UInt8) : List UInt8 × Bool := expR (fracR (intR (cutIf isMin l)))
/-- Is a text a number? -/
def isNum (l : List UInt8) : Bool := decide (numR l = ([], true))
def digitsP (d : List UInt8) : Prop := d ≠ [] ∧ d.all dgB = true
def IntP (i : List UInt8) : Prop := i = [48] ∨ (digitsP i ∧ starts isNul i = false)
def FracP (f : List UInt8) : Prop := f = [] ∨ ∃ d, f = 46 :: d ∧ digitsP d
def ExpP (e : List UInt8) : Prop := e = [] ∨ ∃ c s d, isExp c = true ∧ (s = [] ∨ s = [43] ∨ s = [45]) ∧ digitsP d ∧ e = c :: (s ++ d)
def NumShape (p : List UInt8) : Prop := ∃ m i f e, (m = [] ∨ m = [45]) ∧ IntP i ∧ FracP f ∧ ExpP e ∧ p = m ++ (i ++ (f ++ e))
/-- What may stand right behind a number. -/
def sepd (y : List UInt8) : Prop := starts numC y = false
theorem byte_all {P : UInt8 → Prop} [DecidablePred P] (h : ∀ n : Fin 256, P (UInt8.ofNat n.val)) (c : UInt8) : P c := by
  have := h ⟨c.toNat, c.toNat_lt⟩
  simpa using this
theorem dg_num (c : UInt8) : numC c = false → dgB c = false := by revert c; apply byte_all; decide +kernel
theorem dot_num (c : UInt8) : numC c = false → isDot c = false := by revert c; apply byte_all; decide +kernel
theorem exp_num (c : UInt8) : numC c = false → isExp c = false := by revert c; apply byte_all; decide +kernel
theorem sgn_num (c : UInt8) : numC c = false → isSgn c = false := by revert c; apply byte_all; decide +kernel
theorem min_num (c : UInt8) : numC c = false → isMin c = false := by revert c; apply byte_all; decide +kernel
theorem nul_num (c : UInt8) : numC c = false → isNul c = false := by revert c; apply byte_all; decide +kernel
theorem dot_dg (c : UInt8) : isDot c = true → dgB c = false := by revert c; apply byte_all; decide +kernel
theorem exp_dg (c : UInt8) : isExp c = true → dgB c = false ∧ isDot c = false := by revert c; apply byte_all; decide +kernel
theorem sgn_dg (c : UInt8) : isSgn c = true → dgB c = false := by revert c; apply byte_all; decide +kernel
theorem dg_sgn (c : UInt8) : dgB c = true → isSgn c = false ∧ isMin c = false ∧ isDot c = false ∧ isExp c = false ∧ numC c = true := by revert c; apply byte_all; decide +kernel
theorem nul_iff (c : UInt8) : isNul c = true → c = 48 := by revert c; apply byte_all; decide +kernel
theorem starts_app (f : UInt8 → Bool) (x y : List UInt8) (h : x ≠ []) : starts f (x ++ y) = starts f x := by
  cases x with
  | nil => exact absurd rfl h
  | cons c r => rfl
theorem starts_sep {f : UInt8 → Bool} (hf : ∀ c, numC c = false → f c = false) {y : List UInt8} (h : sepd y) : starts f y = false := by
  cases y with
  | nil => rfl
  | cons c r => exact hf c h
theorem digs_app (x y : List UInt8) (h : digs x ≠ [] ∨ starts dgB y = false) : digs (x ++ y) = digs x ++ y := by
  induction x with
  | nil =>
    rcases h with h | h
    · exact absurd rfl h
    · cases y with
      | nil => rfl
      | cons c r => exact List.dropWhile_cons_of_neg (by rw [show dgB c = false from h]; decide)
  | cons c x ih =>
    cases hc : dgB c
    · have e : ∀ z, digs (c :: z) = c :: z := fun z => List.dropWhile_cons_of_neg (by rw [hc]; decide)
      rw [List.cons_append, e, e, List.cons_append]
    · have e : ∀ z, digs (c :: z) = digs z := fun z => List.dropWhile_cons_of_pos hc
      rw [List.cons_append, e, e]
      rw [e] at h
      exact ih h
theorem digs_le (l : List UInt8) : (digs l).length ≤ l.length := by
  induction l with
  | nil => exact Nat.le_refl _
  | cons c l ih =>
    cases hc : dgB c
    · rw [digs, List.dropWhile_cons_of_neg (by rw [hc]; decide)]; exact Nat.le_refl _
    · rw [digs, List.dropWhile_cons_of_pos hc]; exact Nat.le_succ_of_le ih
theorem digR_app (x y : List UInt8) (h : digs x ≠ [] ∨ starts dgB y = false) : digR (x ++ y) = ((digR x).1 ++ y, (digR x).2) := by
  unfold digR
  rw [digs_app x y h]
  simp only [Prod.mk.injEq, true_and, List.length_append]
  exact decide_eq_decide.2 (by omega)
theorem cutIf_app (f : UInt8 → Bool) (x y : List UInt8) (h : x ≠ [] ∨ starts f y = false) : cutIf f (x ++ y) = cutIf f x ++ y := by
  cases x with
  | nil =>
    rcases h with h | h
    · exact absurd rfl h
    · unfold cutIf
      rw [List.nil_append, h]
      rfl
  | cons c r =>
    unfold cutIf
    show (if f c = true then r ++ y else c :: (r ++ y)) = (if f c = true then r else c :: r) ++ y
    split <;> rfl
theorem tail_app {x : List UInt8} (y : List UInt8) (h : x ≠ []) : (x ++ y).tail = x.tail ++ y := by
  cases x with
  | nil => exact absurd rfl h
  | cons c r => rfl
theorem starts_ne {f : UInt8 → Bool} {l : List UInt8} (h : starts f l = true) : l ≠ [] := by
  cases l with
  | nil => cases h
  | cons c r => exact List.cons_ne_nil _ _
theorem digs_ne {l : List UInt8} (h : digs l ≠ []) : l ≠ [] := by rintro rfl; exact h rfl
theorem sep_dg {y : List UInt8} (h : sepd y) : starts dgB y = false := starts_sep dg_num h
theorem intR_app (x y : List UInt8) (h : (intR x).1 ≠ [] ∨ sepd y) : intR (x ++ y) = ((intR x).1 ++ y, (intR x).2) := by
  unfold intR at h ⊢
  by_cases hx : x = []
  · subst hx
    have hy : sepd y := by
      rcases h with h | h
      · exact absurd rfl h
      · exact h
    rw [List.nil_append, starts_sep nul_num hy]
    have := digR_app [] y (.inr (sep_dg hy))
    rw [List.nil_append] at this
    exact this
  · rw [starts_app _ x y hx]
    by_cases hs : starts isNul x = true
    · rw [if_pos hs, if_pos hs, tail_app y hx]
    · rw [if_neg hs, if_neg hs]
      rw [if_neg hs] at h
      exact digR_app x y (h.imp id sep_dg)
theorem fracR_app (p : List UInt8 × Bool) (y : List UInt8) (h : (fracR p).1 ≠ [] ∨ sepd y) : fracR (p.1 ++ y, p.2) = ((fracR p).1 ++ y, (fracR p).2) := by
  unfold fracR at h ⊢
  by_cases hx : p.1 = []
  · rw [hx] at h ⊢
    have hn : ¬ (p.2 = true ∧ starts isDot [] = true) := fun e => by cases e.2
    have hy : sepd y := by
      rw [if_neg hn] at h
      rcases h with h | h
      · exact absurd hx h
      · exact h
    rw [if_neg hn, if_neg (by rw [List.nil_append, starts_sep dot_num hy]; exact fun e => by cases e.2), hx]
  · simp only [starts_app _ _ y hx]
    by_cases hs : p.2 = true ∧ starts isDot p.1 = true
    · rw [if_pos hs, if_pos hs, tail_app y hx]
      rw [if_pos hs] at h
      exact digR_app _ y (h.imp id sep_dg)
    · rw [if_neg hs, if_neg hs]
theorem expR_app (p : List UInt8 × Bool) (y : List UInt8) (h : (expR p).1 ≠ [] ∨ sepd y) : expR (p.1 ++ y, p.2) = ((expR p).1 ++ y, (expR p).2) := by
  unfold expR at h ⊢
  by_cases hx : p.1 = []
  · rw [hx] at h ⊢
    have hn : ¬ (p.2 = true ∧ starts isExp [] = true) := fun e => by cases e.2
    have hy : sepd y := by
      rw [if_neg hn] at h
      rcases h with h | h
      · exact absurd hx h
      · exact h
    rw [if_neg hn, if_neg (by rw [List.nil_append, starts_sep exp_num hy]; exact fun e => by cases e.2), hx]
  · simp only [starts_app _ _ y hx]
    by_cases hs : p.2 = true ∧ starts isExp p.1 = true
    · rw [if_pos hs, if_pos hs, tail_app y hx]
      rw [if_pos hs] at h
      have e : cutIf isSgn (p.1.tail ++ y) = cutIf isSgn p.1.tail ++ y := cutIf_app _ _ _ (by
        rcases h with h | h
        · left
          intro e
          rw [e] at h
          exact h rfl
        · exact .inr (starts_sep sgn_num h))
      rw [e]
      exact digR_app _ y (h.imp id sep_dg)
    · rw [if_neg hs, if_neg hs]
theorem fracR_nil {p : List UInt8 × Bool} (h : (fracR p).1 ≠ []) : p.1 ≠ [] := by
  intro e
  unfold fracR at h
  rw [e] at h
  rw [if_neg (fun e => by cases e.2)] at h
  exact h e
theorem expR_nil {p : List UInt8 × Bool} (h : (expR p).1 ≠ []) : p.1 ≠ [] := by
  intro e
  unfold expR at h
  rw [e] at h
  rw [if_neg (fun e => by cases e.2)] at h
  exact h e
theorem intR_nil {l : List UInt8} (h : (intR l).1 ≠ []) : l ≠ [] := by rintro rfl; exact h rfl
/-- What is left, and whether it is whole, hangs on no more than what was read, and the byte behind. -/
theorem numR_app (x y : List UInt8) (h : (numR x).1 ≠ [] ∨ sepd y) : numR (x ++ y) = ((numR x).1 ++ y, (numR x).2) := by
  unfold numR at h ⊢
  have h1 : (fracR (intR (cutIf isMin x))).1 ≠ [] ∨ sepd y := h.imp expR_nil id
  have h2 : (intR (cutIf isMin x)).1 ≠ [] ∨ sepd y := h1.imp fracR_nil id
  have h3 : x ≠ [] ∨ starts isMin y = false := h2.imp (fun e => by
    intro e2
    rw [e2] at e
    exact e rfl) (starts_sep min_num)
  rw [cutIf_app _ _ _ h3, intR_app _ _ h2]
  have e1 := fracR_app _ _ h1
  rw [e1]
  exact expR_app _ _ h
theorem digR_split (l : List UInt8) : ∃ d, l = d ++ (digR l).1 ∧ d.all dgB = true ∧ ((digR l).2 = true → d ≠ []) := by
  refine ⟨l.takeWhile dgB, (List.takeWhile_append_dropWhile).symm, ?_, ?_⟩
  · induction l with
    | nil => rfl
    | cons c l ih =>
      cases hc : dgB c
      · rw [List.takeWhile_cons_of_neg (by rw [hc]; decide)]; rfl
      · rw [List.takeWhile_cons_of_pos hc, List.all_cons, hc, ih]; rfl
  · intro h e
    have h2 : l.takeWhile dgB ++ l.dropWhile dgB = l := List.takeWhile_append_dropWhile
    rw [e, List.nil_append] at h2
    have h3 : (digs l).length < l.length := of_decide_eq_true h
    rw [digs, h2] at h3
    exact absurd h3 (Nat.lt_irrefl _)
theorem all_starts {f : UInt8 → Bool} {d : List UInt8} (h : d.all f = true) (hn : d ≠ []) : starts f d = true := by
  cases d with
  | nil => exact absurd rfl hn
  | cons c r => rw [List.all_cons, Bool.and_eq_true] at h; exact h.1
theorem cutIf_split (f : UInt8 → Bool) (l : List UInt8) : (starts f l = false ∧ cutIf f l = l) ∨ ∃ c, f c = true ∧ l = c :: cutIf f l := by
  unfold cutIf
  cases l with
  | nil => exact .inl ⟨rfl, rfl⟩
  | cons c r =>
    cases hc : f c
    · exact .inl ⟨hc, by rw [if_neg (by show ¬ f c = true; rw [hc]; decide)]⟩
    · exact .inr ⟨c, hc, by rw [if_pos (show starts f (c :: r) = true from hc)]; rfl⟩
theorem min_iff (c : UInt8) : isMin c = true → c = 45 := by revert c; apply byte_all; decide +kernel
theorem dot_iff (c : UInt8) : isDot c = true → c = 46 := by revert c; apply byte_all; decide +kernel
theorem sgn_iff (c : UInt8) : isSgn c = true → c = 43 ∨ c = 45 := by revert c; apply byte_all; decide +kernel
/-- What was read as a whole number has a number's shape. -/
theorem numR_shape {l r : List UInt8} (h : numR l = (r, true)) : ∃ p, l = p ++ r ∧ NumShape p := by
  obtain ⟨m, hm, em⟩ : ∃ m, (m = [] ∨ m = [45]) ∧ l = m ++ cutIf isMin l := by
    rcases cutIf_split isMin l with ⟨_, e⟩ | ⟨c, hc, e⟩
    · exact ⟨[], .inl rfl, by rw [e]; rfl⟩
    · exact ⟨[45], .inr rfl, by rw [min_iff c hc] at e; exact e⟩
  unfold numR at h
  generalize hl1 : cutIf isMin l = l1 at h em
  -- whole so far
  have hw2 : (fracR (intR l1)).2 = true := by
    by_cases e : (fracR (intR l1)).2 = true
    · exact e
    · unfold expR at h; rw [if_neg (fun x => e x.1)] at h; rw [h] at e; exact absurd rfl e
  have hw1 : (intR l1).2 = true := by
    by_cases e : (intR l1).2 = true
    · exact e
    · unfold fracR at hw2; rw [if_neg (fun x => e x.1)] at hw2; exact hw2
  obtain ⟨i, hi, ei⟩ : ∃ i, IntP i ∧ l1 = i ++ (intR l1).1 := by
    unfold intR at hw1 ⊢
    by_cases hs : starts isNul l1 = true
    · rw [if_pos hs]
      cases l1 with
      | nil => cases hs
      | cons c t => exact ⟨[48], .inl rfl, by rw [nul_iff c hs]; rfl⟩
    · rw [if_neg hs] at hw1 ⊢
      obtain ⟨d, e, ha, hn⟩ := digR_split l1
      have hdn := hn hw1
      refine ⟨d, .inr ⟨⟨hdn, ha⟩, ?_⟩, e⟩
      rw [e, starts_app _ _ _ hdn] at hs
      simpa using hs
  generalize intR l1 = p1 at h hw2 hw1 ei
  obtain ⟨f, hf, ef⟩ : ∃ f, FracP f ∧ p1.1 = f ++ (fracR p1).1 := by
    unfold fracR at hw2 ⊢
    by_cases hs : p1.2 = true ∧ starts isDot p1.1 = true
    · rw [if_pos hs] at hw2 ⊢
      obtain ⟨d, e, ha, hn⟩ := digR_split p1.1.tail
      have hs2 := hs.2
      generalize hq : p1.1 = q at *
      cases q with
      | nil => cases hs2
      | cons c t =>
        refine ⟨46 :: d, .inr ⟨d, rfl, hn hw2, ha⟩, ?_⟩
        rw [dot_iff c hs2, List.cons_append]
        exact congrArg _ e
    · rw [if_neg hs]
      exact ⟨[], .inl rfl, rfl⟩
  generalize fracR p1 = p2 at h hw2 ef
  obtain ⟨e, he, ee⟩ : ∃ e, ExpP e ∧ p2.1 = e ++ r := by
    unfold expR at h
    by_cases hs : p2.2 = true ∧ starts isExp p2.1 = true
    · rw [if_pos hs] at h
      have hs2 := hs.2
      generalize hq : p2.1 = q at *
      cases q with
      | nil => cases hs2
      | cons c t =>
        obtain ⟨d, e, ha, hn⟩ := digR_split (cutIf isSgn t)
        replace h : digR (cutIf isSgn t) = (r, true) := h
        rw [h] at e hn
        rcases cutIf_split isSgn t with ⟨_, e2⟩ | ⟨g, hg, e2⟩
        · rw [e2] at e
          exact ⟨c :: ([] ++ d), .inr ⟨c, [], d, hs2, .inl rfl, ⟨hn rfl, ha⟩, rfl⟩, by rw [e]; rfl⟩
        · rw [e] at e2
          rcases sgn_iff g hg with rfl | rfl
          · exact ⟨c :: ([43] ++ d), .inr ⟨c, [43], d, hs2, .inr (.inl rfl), ⟨hn rfl, ha⟩, rfl⟩, by rw [e2]; rfl⟩
          · exact ⟨c :: ([45] ++ d), .inr ⟨c, [45], d, hs2, .inr (.inr rfl), ⟨hn rfl, ha⟩, rfl⟩, by rw [e2]; rfl⟩
    · rw [if_neg hs] at h
      exact ⟨[], .inl rfl, by rw [h]; rfl⟩
  exact ⟨m ++ (i ++ (f ++ e)), by rw [em, ei, ef, ee]; simp, m, i, f, e, hm, hi, hf, he, rfl⟩
theorem digs_all {d : List UInt8} (h : d.all dgB = true) : digs d = [] := by
  induction d with
  | nil => rfl
  | cons c d ih =>
    rw [List.all_cons, Bool.and_eq_true] at h
    rw [digs, List.dropWhile_cons_of_pos h.1]
    exact ih h.2
theorem digR_digits {d : List UInt8} (h : digitsP d) : digR d = ([], true) := by
  unfold digR
  rw [digs_all h.2]
  have : 0 < d.length := List.length_pos_iff.2 h.1
  simp only [List.length_nil, this, decide_true]
theorem digR_behind {d y : List UInt8} (h : digitsP d) (hy : starts dgB y = false) : digR (d ++ y) = (y, true) := by
  rw [digR_app d y (.inr hy), digR_digits h]
  rfl
theorem exp_starts {e : List UInt8} (h : ExpP e) (f : UInt8 → Bool) (hf : ∀ c, isExp c = true → f c = false) : starts f e = false := by
  rcases h with rfl | ⟨c, s, d, hc, _, _, rfl⟩
  · rfl
  · exact hf c hc
theorem frac_exp_starts {f e : List UInt8} (hf : FracP f) (he : ExpP e) : starts dgB (f ++ e) = false := by
  rcases hf with rfl | ⟨d, rfl, _⟩
  · exact exp_starts he _ (fun c h => (exp_dg c h).1)
  · rfl
theorem shape_num {p : List UInt8} (h : NumShape p) : numR p = ([], true) := by
  obtain ⟨m, i, f, e, hm, hi, hf, he, rfl⟩ := h
  have hin : i ≠ [] := by rcases hi with rfl | ⟨⟨h, _⟩, _⟩; exact List.cons_ne_nil _ _; exact h
  have h1 : cutIf isMin (m ++ (i ++ (f ++ e))) = i ++ (f ++ e) := by
    rcases hm with rfl | rfl
    · have : starts isMin i = false := by
        rcases hi with rfl | ⟨⟨hn, ha⟩, _⟩
        · rfl
        · cases i with
          | nil => rfl
          | cons c t =>
            rw [List.all_cons, Bool.and_eq_true] at ha
            exact (dg_sgn c ha.1).2.1
      unfold cutIf
      rw [List.nil_append, starts_app _ _ _ hin, this]
      rfl
    · rfl
  have h2 : intR (i ++ (f ++ e)) = (f ++ e, true) := by
    unfold intR
    rcases hi with rfl | ⟨hd, hs⟩
    · rfl
    · rw [starts_app _ _ _ hin, hs]
      exact digR_behind hd (frac_exp_starts hf he)
  have h3 : fracR (f ++ e, true) = (e, true) := by
    unfold fracR
    rcases hf with rfl | ⟨d, rfl, hd⟩
    · rw [if_neg]
      · rfl
      · rw [List.nil_append]
        simp only [exp_starts he isDot (fun c h => (exp_dg c h).2)]
        exact fun x => by cases x.2
    · rw [if_pos ⟨rfl, rfl⟩]
      exact digR_behind hd (exp_starts he _ (fun c h => (exp_dg c h).1))
  have h4 : expR (e, true) = ([], true) := by
    unfold expR
    rcases he with rfl | ⟨c, s, d, hc, hs, hd, rfl⟩
    · rfl
    · rw [if_pos ⟨rfl, hc⟩]
      have : cutIf isSgn (s ++ d) = d := by
        rcases hs with rfl | rfl | rfl
        · unfold cutIf
          have : starts isSgn d = false := by
            cases d with
            | nil => rfl
            | cons g t =>
              have ha := hd.2
              rw [List.all_cons, Bool.and_eq_true] at ha
              exact (dg_sgn g ha.1).1
          rw [List.nil_append, this]
          rfl
        · rfl
        · rfl
      show digR (cutIf isSgn (s ++ d)) = _
      rw [this]
      exact digR_digits hd
  unfold numR
  rw [h1, h2, h3, h4]
theorem isNum_iff (l : List UInt8) : isNum l = true ↔ NumShape l := by
  unfold isNum
  rw [decide_eq_true_iff]
  constructor
  · intro h
    obtain ⟨p, e, hp⟩ := numR_shape h
    rw [List.append_nil] at e
    exact e ▸ hp
  · exact shape_num
theorem numR_self {l : List UInt8} (h : isNum l = true) : numR l = ([], true) := of_decide_eq_true h
/-- A number is read of a text that begins with it. -/
theorem numR_behind {p y : List UInt8} (h : isNum p = true) (hy : sepd y) : numR (p ++ y) = (y, true) := by
  rw [numR_app p y (.inr hy), numR_self h]
  rfl
/-- What a whole number is read of begins with it. -/
theorem numR_part {l r : List UInt8} (h : numR l = (r, true)) : ∃ p, l = p ++ r ∧ isNum p = true := by
  obtain ⟨p, e, hp⟩ := numR_shape h
  exact ⟨p, e, (isNum_iff p).2 hp⟩
/-- What is left of a text is its end. -/
theorem numR_left (l : List UInt8) : ∃ p, l = p ++ (numR l).1 := by
  have hd : ∀ l, ∃ p, l = p ++ (digR l).1 := fun l => by obtain ⟨d, e, _⟩ := digR_split l; exact ⟨d, e⟩
  have hc : ∀ f l, ∃ p, l = p ++ cutIf f l := fun f l => by
    rcases cutIf_split f l with ⟨_, e⟩ | ⟨c, _, e⟩
    · exact ⟨[], by rw [e]; rfl⟩
    · exact ⟨[c], e⟩
  have ht : ∀ l : List UInt8, ∃ p, l = p ++ l.tail := fun l => by
    cases l with
    | nil => exact ⟨[], rfl⟩
    | cons c r => exact ⟨[c], rfl⟩
  have hi : ∀ l, ∃ p, l = p ++ (intR l).1 := fun l => by
    unfold intR
    split
    · exact ht l
    · exact hd l
  have hf : ∀ q, ∃ p, q.1 = p ++ (fracR q).1 := fun q => by
    unfold fracR
    split
    · obtain ⟨a, ha⟩ := ht q.1
      obtain ⟨b, hb⟩ := hd q.1.tail
      exact ⟨a ++ b, by rw [List.append_assoc, ← hb, ← ha]⟩
    · exact ⟨[], rfl⟩
  have he : ∀ q, ∃ p, q.1 = p ++ (expR q).1 := fun q => by
    unfold expR
    split
    · obtain ⟨a, ha⟩ := ht q.1
      obtain ⟨c, hc⟩ := hc isSgn q.1.tail
      obtain ⟨b, hb⟩ := hd (cutIf isSgn q.1.tail)
      exact ⟨a ++ (c ++ b), by rw [List.append_assoc, List.append_assoc, ← hb, ← hc, ← ha]⟩
    · exact ⟨[], rfl⟩
  unfold numR
  obtain ⟨a, ha⟩ := hc isMin l
  obtain ⟨b, hb⟩ := hi (cutIf isMin l)
  obtain ⟨c, hc⟩ := hf (intR (cutIf isMin l))
  obtain ⟨d, hd⟩ := he (fracR (intR (cutIf isMin l)))
  exact ⟨a ++ (b ++ (c ++ d)), by rw [List.append_assoc, List.append_assoc, List.append_assoc, ← hd, ← hc, ← hb, ← ha]⟩
theorem num_head {l : List UInt8} (h : isNum l = true) : ∃ c r, l = c :: r ∧ (isMin c = true ∨ dgB c = true) := by
  obtain ⟨m, i, f, e, hm, hi, hf, he, rfl⟩ := (isNum_iff l).1 h
  rcases hm with rfl | rfl
  · rcases hi with rfl | ⟨⟨hn, ha⟩, _⟩
    · exact ⟨48, _, rfl, .inr (by decide)⟩
    · cases i with
      | nil => exact absurd rfl hn
      | cons c t =>
        rw [List.all_cons, Bool.and_eq_true] at ha
        exact ⟨c, _, rfl, .inr ha.1⟩
  · exact ⟨45, _, rfl, .inl rfl⟩
end Jsn
/- JSON texts: what a reader answers, as plain functions on what is left of a text. -/
set_option linter.unusedVariables false
namespace Jsn
open Asc
open Go.Lib (encodeRune)
/-- What a reader answers: something, and what is left; or a fault, and how much is left where it is. -/
inductive R (α : Type) where
  | ok (a : α) (l : List UInt8)
  | err (why : Int) (left : Nat)
def R.map {α β : Type} (f : α → β) : R α → R β
  | .ok a l => .ok (f a) l
  | .err w n => .err w n
def R.bind {α β : Type} (x : R α) (f : α → List UInt8 → R β) : R β := match x with
  | .ok a l => f a l
  | .err w n => .err w n
def wsB (c : UInt8) : Bool := c == 9 || c == 10 || c == 13 || c == 32
def skip (l : List UInt8) : List UInt8 := l.dropWhile wsB
/-- So many hex digits; m is left where the escape begins. -/
def four (m : Nat) : Nat → Int → List UInt8 → R Int
  | 0, v, l => .ok v l
  | k + 1, v, [] => .err 4 0
  | k + 1, v, c :: l => if hexOk (bt c) = true then four m k (v * 16 + hexV (bt c)) l else .err 3 m
/-- A byte that must stand. -/
def mustR (m : Nat) (c : UInt8) (l : List UInt8) : R Unit := match l with
  | [] => .err 4 0
  | d :: r => if d = c then .ok () r else .err 3 m
def signR (m : Nat) (l : List UInt8) : R Int := (four m 4 0 l).bind fun s l1 =>
  if s < 55296 ∨ 57344 ≤ s then .ok s l1
  else if 56320 ≤ s then .err 3 m
  else (mustR m 92 l1).bind fun _ l2 => (mustR m 117 l2).bind fun _ l3 => (four m 4 0 l3).bind fun h l4 =>
    if h < 56320 ∨ 57344 ≤ h then .err 3 m else .ok (65536 + (s - 55296) * 1024 + (h - 56320)) l4
def simple (c : UInt8) : Option Int :=
  if c = 34 then some 34 else if c = 92 then some 92 else if c = 47 then some 47 else if c = 98 then some 8 else if c = 116 then some 9 else if c = 110 then some 10 else if c = 102 then some 12 else if c = 114 then some 13 else none
def escR (m : Nat) (l : List UInt8) : R Int := match l with
  | [] => .err 4 0
  | c :: r => match simple c with
    | some x => .ok x r
    | none => if c = 117 then signR m r else .err 3 m
/-- What stands in quotes, behind the first one. -/
def quotedR (l : List UInt8) : R (List UInt8) := match l with
  | [] => .err 4 0
  | c :: r =>
    if c = 34 then .ok [] r
    else if c = 92 then (match escR (r.length + 1) r with
      | .err w n => .err w n
      | .ok x z => if z.length ≤ r.length then (quotedR z).map (encodeRune x ++ ·) else .err 0 0)
    else if c < 32 then .err 3 (r.length + 1)
    else (quotedR r).map (c :: ·)
termination_by l.length
decreasing_by all_goals (simp_wf; try omega)
def wordR (m : Nat) : List UInt8 → List UInt8 → R Unit
  | [], l => .ok () l
  | a :: w, l => (mustR m a l).bind fun _ r => wordR m w r
inductive J where
  | mk (kind : Int) (text : List UInt8) (keys : List (List UInt8)) (kids : List J)
def J.kind : J → Int | .mk k _ _ _ => k
def J.text : J → List UInt8 | .mk _ t _ _ => t
def J.keys : J → List (List UInt8) | .mk _ _ ks _ => ks
def J.kids : J → List J | .mk _ _ _ cs => cs
def J.zero : J := .mk 0 [] [] []
theorem J.eta (v : J) : .mk v.kind v.text v.keys v.kids = v := by cases v; rfl
theorem J.ind {P : J → Prop} (h : ∀ k t ks cs, (∀ c ∈ cs, P c) → P (.mk k t ks cs)) : ∀ v, P v
  | .mk k t ks cs => h k t ks cs fun c hc => J.ind h c
termination_by v => sizeOf v
decreasing_by
  have := List.sizeOf_lt_of_mem hc
  simp_wf
  omega
def takes (c : UInt8) (l : List UInt8) : R Bool := match skip l with
  | [] => .err 4 0
  | x :: r => if x = c then .ok true r else .ok false (x :: r)
def goesOn (e : UInt8) (l : List UInt8) : R Bool := (takes e l).bind fun is r =>
  if is = true then .ok false r else (takes 44 r).bind fun is z => if is = true then .ok true z else .err 3 z.length
structure St where
  n : Nat
  keys : List (List UInt8)
  kids : List J
def loopR (step : St → List UInt8 → R St) (e : UInt8) (s : St) (l : List UInt8) : R St := match step s l with
  | .err w n => .err w n
  | .ok s1 l1 => match goesOn e l1 with
    | .err w n => .err w n
    | .ok m l2 => if m = false then .ok s1 l2 else if h : l2.length < l.length then loopR step e s1 l2 else .err 0 0
termination_by l.length
def nestR (step : St → List UInt8 → R St) (e : UInt8) (s : St) (l : List UInt8) : R St := (takes e l).bind fun is r =>
  if is = true then .ok s r else loopR step e s r
def stepL (val : Nat → List UInt8 → R (J × Nat)) (s : St) (l : List UInt8) : R St := (val s.n l).bind fun p r => .ok ⟨p.2, s.keys, s.kids ++ [p.1]⟩ r
def keyR (keys : List (List UInt8)) (l : List UInt8) : R (List UInt8) := match skip l with
  | [] => .err 4 0
  | c :: r => if c = 34 then (quotedR r).bind fun t z => if t ∈ keys then .err 7 (r.length + 1) else .ok t z else .err 3 (r.length + 1)
def stepT (val : Nat → List UInt8 → R (J × Nat)) (s : St) (l : List UInt8) : R St := (keyR s.keys l).bind fun k r =>
  (takes 58 r).bind fun is z => if is = true then (val s.n z).bind fun p y => .ok ⟨p.2, s.keys ++ [k], s.kids ++ [p.1]⟩ y else .err 3 z.length
def nullT : List UInt8 := [110, 117, 108, 108]
def trueT : List UInt8 := [116, 114, 117, 101]
def falseT : List UInt8 := [102, 97, 108, 115, 101]
/-- A number at the place. -/
def numV (l : List UInt8) : R (List UInt8) :=
  if (numR l).2 = true then .ok (l.take (l.length - (numR l).1.length)) (numR l).1 else if (numR l).1 = [] then .err 4 0 else .err 3 l.length
/-- A value that is no List and no Table, at its first byte. -/
def plainR (c : UInt8) (r : List UInt8) : R J :=
  if c = 34 then (quotedR r).map fun t => .mk 4 t [] []
  else if c = 110 then (wordR (r.length + 1) nullT (c :: r)).map fun _ => .mk 1 [] [] []
  else if c = 116 then (wordR (r.length + 1) trueT (c :: r)).map fun _ => .mk 2 trueT [] []
  else if c = 102 then (wordR (r.length + 1) falseT (c :: r)).map fun _ => .mk 2 falseT [] []
  else (numV (c :: r)).map fun t => .mk 3 t [] []
def valueG (nest : UInt8 → Nat → List UInt8 → R (J × Nat)) (n : Nat) (l : List UInt8) : R (J × Nat) := match skip l with
  | [] => .err 4 0
  | c :: r => if n = 4096 then .err 5 (r.length + 1)
    else if c = 91 ∨ c = 123 then nest c (n + 1) r
    else (plainR c r).map fun v => (v, n + 1)
def nestG (val : Nat → List UInt8 → R (J × Nat)) (c : UInt8) (n : Nat) (r : List UInt8) : R (J × Nat) :=
  if c = 91 then (nestR (stepL val) 93 ⟨n, [], []⟩ r).map fun s => (.mk 5 [] [] s.kids, s.n)
  else (nestR (stepT val) 125 ⟨n, [], []⟩ r).map fun s => (.mk 6 [] s.keys s.kids, s.n)
/-- A value in which so many Lists and Tables may lie in one another. -/
def valueR : Nat → Nat → List UInt8 → R (J × Nat)
  | 0 => valueG fun _ _ r => .err 8 (r.length + 1)
  | k + 1 => valueG (nestG (valueR k))
/-- The whole text. -/
def wholeR (l : List UInt8) : R J := (valueR 64 0 l).bind fun p r => if skip r = [] then .ok p.1 [] else .err 3 (skip r).length
/-- The fault of a text: {0, 0} if there is none. -/
def faultJ (l : List UInt8) : Int × Int :=
  if 65536 < l.length then (5, 0) else if Utf.isText l = false then (9, 0) else match wholeR l with
    | .ok _ _ => (0, 0)
    | .err w n => (w, (l.length : Int) - n)
def parseJ (l : List UInt8) : J :=
  if 65536 < l.length then .zero else if Utf.isText l = false then .zero else match wholeR l with
    | .ok v _ => v
    | .err w n => .zero
/-- How a byte is told in quotes. -/
def hexC (n : Nat) : UInt8 := if n < 10 then (48 + n).toUInt8 else (87 + n).toUInt8
def escB (c : UInt8) : List UInt8 :=
  if c = 34 then [92, 34] else if c = 92 then [92, 92] else if c = 8 then [92, 98] else if c = 9 then [92, 116] else if c = 10 then [92, 110] else if c = 12 then [92, 102] else if c = 13 then [92, 114]
  else if c < 32 ∨ c = 127 then [92, 117, 48, 48, hexC (c.toNat / 16), hexC (c.toNat % 16)] else [c]
def quoteJ (l : List UInt8) : List UInt8 := 34 :: (l.flatMap escB ++ [34])
mutual
def textJ : J → List UInt8
  | .mk k t ks cs => if k = 1 then nullT else if k = 4 then quoteJ t else if k = 5 then 91 :: (itemsJ true cs ++ [93]) else if k = 6 then 123 :: (pairsJ true ks cs ++ [125]) else t
def itemsJ : Bool → List J → List UInt8
  | _, [] => []
  | b, c :: cs => (if b = true then [] else [44]) ++ (textJ c ++ itemsJ false cs)
def pairsJ : Bool → List (List UInt8) → List J → List UInt8
  | _, _, [] => []
  | b, ks, c :: cs => (if b = true then [] else [44]) ++ (quoteJ (ks.headD []) ++ (58 :: (textJ c ++ pairsJ false ks.tail cs)))
end
def keysOK (ks : List (List UInt8)) : Bool := ks.all Utf.isText && decide ks.Nodup
def textOf (k : Int) (t : List UInt8) : Bool :=
  if k = 1 then t.isEmpty else if k = 2 then decide (t = trueT ∨ t = falseT) else if k = 3 then isNum t else if k = 4 then Utf.isText t else false
mutual
/-- How many values there are with this one, if it may be, d within others, behind n. -/
def mayC : J → Nat → Nat → Option Nat
  | .mk k t ks cs, d, n =>
    if 4096 ≤ n then none
    else if k = 5 then (if t = [] ∧ ks = [] ∧ d < 64 then mayL cs (d + 1) (n + 1) else none)
    else if k = 6 then (if t = [] ∧ ks.length = cs.length ∧ d < 64 then (if keysOK ks = true then mayL cs (d + 1) (n + 1) else none) else none)
    else if ks = [] ∧ cs = [] ∧ textOf k t = true then some (n + 1) else none
def mayL : List J → Nat → Nat → Option Nat
  | [], _, n => some n
  | c :: cs, d, n => match mayC c d n with
    | none => none
    | some m => mayL cs d m
end
def mayJ (v : J) : Bool := (mayC v 0 0).isSome
end Jsn
/- JSON texts: what is left is an end of what was there, and where faults are. -/
set_option linter.unusedVariables false
namespace Jsn
open Asc
open Go.Lib (encodeRune)
/-- What is left is an end of l; a fault is one, and leaves at most M; the text's end leaves nothing. -/
def Fine {α : Type} (M : Nat) (l : List UInt8) (x : R α) : Prop := match x with
  | .ok _ z => z <:+ l
  | .err w n => w ≠ 0 ∧ n ≤ M ∧ (w = 4 → n = 0)
theorem Fine.mono {α : Type} {M N : Nat} {l k : List UInt8} {x : R α} (h : Fine M l x) (hM : M ≤ N) (hl : l <:+ k) : Fine N k x := by
  cases x with
  | ok a z => exact List.IsSuffix.trans h hl
  | err w n => exact ⟨h.1, Nat.le_trans h.2.1 hM, h.2.2⟩
theorem Fine.map {α β : Type} {M : Nat} {l : List UInt8} {x : R α} (f : α → β) (h : Fine M l x) : Fine M l (x.map f) := by
  cases x with
  | ok a z => exact h
  | err w n => exact h
theorem Fine.bind {α β : Type} {M : Nat} {l : List UInt8} {x : R α} {f : α → List UInt8 → R β} (h : Fine M l x) (hf : ∀ a z, z <:+ l → Fine M z (f a z)) : Fine M l (x.bind f) := by
  cases x with
  | ok a z => exact (hf a z h).mono (Nat.le_refl _) h
  | err w n => exact h
theorem skip_suf (l : List UInt8) : skip l <:+ l := List.dropWhile_suffix _
theorem suf_cons (c : UInt8) (l : List UInt8) : l <:+ c :: l := List.suffix_cons c l
theorem four_fine (m : Nat) : ∀ (k : Nat) (v : Int) (l : List UInt8), Fine m l (four m k v l)
  | 0, v, l => List.suffix_refl _
  | k + 1, v, [] => ⟨by decide, Nat.zero_le _, fun _ => rfl⟩
  | k + 1, v, c :: l => by
    unfold four
    split
    · exact (four_fine m k _ l).mono (Nat.le_refl _) (suf_cons c l)
    · exact ⟨by decide, Nat.le_refl _, fun h => by cases h⟩
theorem must_fine (m : Nat) (c : UInt8) (l : List UInt8) : Fine m l (mustR m c l) := by
  cases l with
  | nil => exact ⟨by decide, Nat.zero_le _, fun _ => rfl⟩
  | cons d r =>
    show Fine m (d :: r) (if d = c then .ok () r else .err 3 m)
    split
    · exact suf_cons d r
    · exact ⟨by decide, Nat.le_refl _, fun h => by cases h⟩
theorem form_fine {α : Type} (m : Nat) (l : List UInt8) : Fine m l (.err 3 m : R α) := ⟨by decide, Nat.le_refl _, fun h => by cases h⟩
theorem end_fine {α : Type} (m : Nat) (l : List UInt8) : Fine m l (.err 4 0 : R α) := ⟨by decide, Nat.zero_le _, fun _ => rfl⟩
theorem sign_fine (m : Nat) (l : List UInt8) : Fine m l (signR m l) := by
  refine (four_fine m 4 0 l).bind fun s l1 _ => ?_
  split
  · exact List.suffix_refl _
  · split
    · exact form_fine _ _
    · refine (must_fine m 92 l1).bind fun _ l2 _ => (must_fine m 117 l2).bind fun _ l3 _ => (four_fine m 4 0 l3).bind fun h l4 _ => ?_
      split
      · exact form_fine _ _
      · exact List.suffix_refl _
theorem esc_fine (m : Nat) (l : List UInt8) : Fine m l (escR m l) := by
  cases l with
  | nil => exact end_fine _ _
  | cons c r =>
    unfold escR
    dsimp only
    split
    · exact suf_cons c r
    · split
      · exact (sign_fine m r).mono (Nat.le_refl _) (suf_cons c r)
      · exact form_fine _ _
theorem esc_len {m : Nat} {l z : List UInt8} {x : Int} (h : escR m l = .ok x z) : z.length ≤ l.length := by
  have := esc_fine m l
  rw [h] at this
  exact List.IsSuffix.length_le this
/-- What stands in quotes, byte by byte. -/
theorem quotedR_cons (c : UInt8) (r : List UInt8) : quotedR (c :: r) =
    if c = 34 then .ok [] r
    else if c = 92 then (escR (r.length + 1) r).bind fun x z => (quotedR z).map (encodeRune x ++ ·)
    else if c < 32 then .err 3 (r.length + 1)
    else (quotedR r).map (c :: ·) := by
  conv => lhs; unfold quotedR
  split
  · rfl
  · split
    · cases he : escR (r.length + 1) r with
      | err w n => rfl
      | ok x z =>
        dsimp only
        rw [if_pos (esc_len he)]
        rfl
    · rfl
theorem quotedR_nil : quotedR [] = .err 4 0 := by unfold quotedR; rfl
theorem quoted_fine (l : List UInt8) : Fine l.length l (quotedR l) := by
  induction hn : l.length using Nat.strongRecOn generalizing l with
  | _ n ih =>
    subst hn
    cases l with
    | nil => rw [quotedR_nil]; exact end_fine _ _
    | cons c r =>
      rw [quotedR_cons]
      split
      · exact suf_cons c r
      · split
        · have h1 := (esc_fine (r.length + 1) r)
          refine Fine.mono (M := r.length + 1) (l := r) ?_ (Nat.le_refl _) (suf_cons c r)
          refine h1.bind fun x z hz => ?_
          refine Fine.map _ ?_
          have := ih z.length (Nat.lt_succ_of_le hz.length_le) z rfl
          exact this.mono (Nat.le_succ_of_le hz.length_le) (List.suffix_refl _)
        · split
          · exact form_fine _ _
          · refine Fine.map _ ?_
            exact (ih r.length (Nat.lt_succ_self _) r rfl).mono (Nat.le_succ _) (suf_cons c r)
theorem word_fine (m : Nat) : ∀ (w l : List UInt8), Fine m l (wordR m w l)
  | [], l => List.suffix_refl _
  | a :: w, l => (must_fine m a l).bind fun _ r _ => word_fine m w r
theorem takes_fine (c : UInt8) (l : List UInt8) : Fine l.length l (takes c l) := by
  have hs := skip_suf l
  unfold takes
  split
  · exact end_fine _ _
  · rename_i x r e
    rw [e] at hs
    split
    · exact (suf_cons x r).trans hs
    · exact hs
theorem takes_true {c : UInt8} {l z : List UInt8} (h : takes c l = .ok true z) : skip l = c :: z ∧ z.length < l.length := by
  have hs := (skip_suf l).length_le
  unfold takes at h
  split at h
  · cases h
  · rename_i x r e
    split at h
    · rename_i hx
      cases h
      rw [e] at hs
      exact ⟨by rw [e, hx], hs⟩
    · cases h
theorem takes_false {c : UInt8} {l z : List UInt8} (h : takes c l = .ok false z) : skip l = z ∧ ∃ x r, z = x :: r ∧ x ≠ c := by
  unfold takes at h
  split at h
  · cases h
  · rename_i x r e
    split at h
    · cases h
    · rename_i hx
      cases h
      exact ⟨e, x, r, rfl, hx⟩
theorem goes_fine (e : UInt8) (l : List UInt8) : Fine l.length l (goesOn e l) := by
  refine (takes_fine e l).bind fun is r hr => ?_
  split
  · exact List.suffix_refl _
  · refine Fine.mono (M := r.length) (l := r) ?_ hr.length_le (List.suffix_refl _)
    refine (takes_fine 44 r).bind fun is z hz => ?_
    split
    · exact List.suffix_refl _
    · exact (form_fine z.length z).mono hz.length_le (List.suffix_refl _)
theorem goes_true {e : UInt8} {l z : List UInt8} (h : goesOn e l = .ok true z) : z.length < l.length := by
  unfold goesOn at h
  have hf := takes_fine e l
  cases ht : takes e l with
  | err w n => rw [ht] at h; cases h
  | ok is r =>
    rw [ht] at h hf
    replace h : (if is = true then (.ok false r : R Bool) else (takes 44 r).bind fun is z => if is = true then .ok true z else .err 3 z.length) = .ok true z := h
    split at h
    · cases h
    · cases ht2 : takes 44 r with
      | err w n => rw [ht2] at h; cases h
      | ok is2 y =>
        rw [ht2] at h
        replace h : (if is2 = true then (.ok true y : R Bool) else .err 3 y.length) = .ok true z := h
        split at h
        · rename_i h2
          subst h2
          cases h
          exact Nat.lt_of_lt_of_le (takes_true ht2).2 (List.IsSuffix.length_le hf)
        · cases h
/-- A step that is fine. -/
def StepFine (step : St → List UInt8 → R St) : Prop := ∀ s l, Fine l.length l (step s l)
theorem loopR_eq {step : St → List UInt8 → R St} (hs : StepFine step) (e : UInt8) (s : St) (l : List UInt8) :
    loopR step e s l = (step s l).bind fun s1 l1 => (goesOn e l1).bind fun m l2 => if m = false then .ok s1 l2 else loopR step e s1 l2 := by
  conv => lhs; unfold loopR
  have h1 := hs s l
  cases hst : step s l with
  | err w n => rfl
  | ok s1 l1 =>
    rw [hst] at h1
    dsimp only [R.bind]
    have h2 := goes_fine e l1
    cases hg : goesOn e l1 with
    | err w n => rfl
    | ok m l2 =>
      dsimp only
      cases m with
      | false => rfl
      | true =>
        rw [dif_pos (Nat.lt_of_lt_of_le (goes_true hg) (List.IsSuffix.length_le h1))]
theorem loop_fine {step : St → List UInt8 → R St} (hs : StepFine step) (e : UInt8) (s : St) (l : List UInt8) : Fine l.length l (loopR step e s l) := by
  induction hn : l.length using Nat.strongRecOn generalizing l s with
  | _ n ih =>
    subst hn
    rw [loopR_eq hs]
    have h1 := hs s l
    cases hst : step s l with
    | err w n => rw [hst] at h1; exact h1
    | ok s1 l1 =>
      rw [hst] at h1
      replace h1 : l1 <:+ l := h1
      show Fine l.length l ((goesOn e l1).bind _)
      have h2 := goes_fine e l1
      cases hg : goesOn e l1 with
      | err w n => rw [hg] at h2; exact Fine.mono h2 h1.length_le h1
      | ok m l2 =>
        rw [hg] at h2
        replace h2 : l2 <:+ l1 := h2
        show Fine l.length l (if m = false then .ok s1 l2 else loopR step e s1 l2)
        cases m with
        | false => exact h2.trans h1
        | true =>
          have hlt := Nat.lt_of_lt_of_le (goes_true hg) h1.length_le
          exact (ih l2.length hlt s1 l2 rfl).mono (Nat.le_of_lt hlt) (h2.trans h1)
theorem nest_fine {step : St → List UInt8 → R St} (hs : StepFine step) (e : UInt8) (s : St) (l : List UInt8) : Fine l.length l (nestR step e s l) := by
  refine (takes_fine e l).bind fun is r hr => ?_
  split
  · exact List.suffix_refl _
  · exact (loop_fine hs e s r).mono hr.length_le (List.suffix_refl _)
def ValFine (val : Nat → List UInt8 → R (J × Nat)) : Prop := ∀ n l, Fine l.length l (val n l)
theorem stepL_fine {val : Nat → List UInt8 → R (J × Nat)} (h : ValFine val) : StepFine (stepL val) := fun s l =>
  (h s.n l).bind fun p r _ => List.suffix_refl _
theorem key_fine (ks : List (List UInt8)) (l : List UInt8) : Fine l.length l (keyR ks l) := by
  have hs := skip_suf l
  unfold keyR
  split
  · exact end_fine _ _
  · rename_i c r e
    rw [e] at hs
    have hl : r.length + 1 ≤ l.length := hs.length_le
    split
    · refine Fine.mono (M := r.length + 1) (l := r) ?_ hl ((suf_cons c r).trans hs)
      refine ((quoted_fine r).mono (Nat.le_succ _) (List.suffix_refl _)).bind fun t z _ => ?_
      split
      · exact ⟨by decide, Nat.le_refl _, fun h => by cases h⟩
      · exact List.suffix_refl _
    · exact (form_fine (r.length + 1) l).mono hl (List.suffix_refl _)
theorem stepT_fine {val : Nat → List UInt8 → R (J × Nat)} (h : ValFine val) : StepFine (stepT val) := fun s l => by
  refine (key_fine s.keys l).bind fun k r hr => ?_
  refine Fine.mono (M := r.length) (l := r) ?_ hr.length_le (List.suffix_refl _)
  refine (takes_fine 58 r).bind fun is z hz => ?_
  refine Fine.mono (M := z.length) (l := z) ?_ hz.length_le (List.suffix_refl _)
  split
  · exact (h s.n z).bind fun p y _ => List.suffix_refl _
  · exact form_fine _ _
theorem numV_fine (l : List UInt8) : Fine l.length l (numV l) := by
  unfold numV
  obtain ⟨p, hp⟩ := numR_left l
  split
  · exact ⟨p, hp.symm⟩
  · split
    · exact end_fine _ _
    · exact form_fine _ _
theorem plain_fine (c : UInt8) (r : List UInt8) : Fine (r.length + 1) (c :: r) (plainR c r) := by
  unfold plainR
  split
  · exact ((quoted_fine r).mono (Nat.le_succ _) (suf_cons c r)).map _
  · split
    · exact (word_fine _ _ _).map _
    · split
      · exact (word_fine _ _ _).map _
      · split
        · exact (word_fine _ _ _).map _
        · exact (numV_fine (c :: r)).map _
theorem valueG_fine {nest : UInt8 → Nat → List UInt8 → R (J × Nat)} (h : ∀ c n r, Fine (r.length + 1) r (nest c n r)) : ValFine (valueG nest) := fun n l => by
  have hs := skip_suf l
  unfold valueG
  split
  · exact end_fine _ _
  · rename_i c r e
    rw [e] at hs
    have hl : r.length + 1 ≤ l.length := hs.length_le
    split
    · exact ⟨by decide, hl, fun h => by cases h⟩
    · split
      · exact (h c _ r).mono hl ((suf_cons c r).trans hs)
      · exact ((plain_fine c r).map _).mono hl hs
theorem nestG_fine {val : Nat → List UInt8 → R (J × Nat)} (h : ValFine val) (c : UInt8) (n : Nat) (r : List UInt8) : Fine (r.length + 1) r (nestG val c n r) := by
  unfold nestG
  split
  · exact ((nest_fine (stepL_fine h) _ _ r).map _).mono (Nat.le_succ _) (List.suffix_refl _)
  · exact ((nest_fine (stepT_fine h) _ _ r).map _).mono (Nat.le_succ _) (List.suffix_refl _)
theorem value_fine : ∀ k, ValFine (valueR k)
  | 0 => valueG_fine fun c n r => ⟨by decide, Nat.le_refl _, fun h => by cases h⟩
  | k + 1 => valueG_fine (nestG_fine (value_fine k))
theorem whole_fine (l : List UInt8) : Fine l.length l (wholeR l) := by
  refine (value_fine 64 0 l).bind fun p r hr => ?_
  split
  · exact List.nil_suffix
  · exact (form_fine _ _).mono (Nat.le_trans (skip_suf r).length_le hr.length_le) (List.suffix_refl _)
end Jsn
/- JSON texts: a value that may be is read of its text. -/
set_option linter.unusedVariables false
namespace Jsn
open Asc
open Go.Lib (encodeRune)
theorem bind_ok {α β : Type} (a : α) (l : List UInt8) (f : α → List UInt8 → R β) : (R.ok a l).bind f = f a l := rfl
theorem items_nil (b : Bool) : itemsJ b [] = [] := by rw [itemsJ]
theorem pairs_nil (b : Bool) (ks : List (List UInt8)) : pairsJ b ks [] = [] := by rw [pairsJ]
theorem skip_none {c : UInt8} (r : List UInt8) (h : wsB c = false) : skip (c :: r) = c :: r := List.dropWhile_cons_of_neg (by rw [h]; decide)
theorem takes_here (c : UInt8) (r : List UInt8) (h : wsB c = false) : takes c (c :: r) = .ok true r := by
  unfold takes
  rw [skip_none r h]
  dsimp only
  rw [if_pos rfl]
theorem takes_other {c x : UInt8} (r : List UInt8) (h : wsB x = false) (hx : x ≠ c) : takes c (x :: r) = .ok false (x :: r) := by
  unfold takes
  rw [skip_none r h]
  dsimp only
  rw [if_neg hx]
theorem hexC_ok : ∀ n : Fin 16, hexOk (bt (hexC n.val)) = true ∧ hexV (bt (hexC n.val)) = (n.val : Int) := by decide +kernel
theorem hexC_at (n : Nat) (h : n < 16) : hexOk (bt (hexC n)) = true ∧ hexV (bt (hexC n)) = (n : Int) := hexC_ok ⟨n, h⟩
theorem enc_small (c : UInt8) : c.toNat < 128 → encodeRune (c.toNat : Int) = [c] := by revert c; apply byte_all; decide +kernel
theorem esc_plain (m : Nat) (c : UInt8) (x : Int) (r : List UInt8) (h : simple c = some x) : escR m (c :: r) = .ok x r := by
  unfold escR
  dsimp only
  rw [h]
theorem four_two (m : Nat) (a b : Nat) (z : List UInt8) (ha : a < 16) (hb : b < 16) : four m 4 0 (48 :: 48 :: hexC a :: hexC b :: z) = .ok ((a : Int) * 16 + b) z := by
  have h0 : hexOk (bt 48) = true ∧ hexV (bt 48) = 0 := by decide +kernel
  unfold four
  rw [if_pos h0.1, h0.2]
  unfold four
  rw [if_pos h0.1, h0.2]
  unfold four
  rw [if_pos (hexC_at a ha).1, (hexC_at a ha).2]
  unfold four
  rw [if_pos (hexC_at b hb).1, (hexC_at b hb).2]
  unfold four
  congr 1
  omega
theorem sign_low {m : Nat} {l z : List UInt8} {s : Int} (h : four m 4 0 l = .ok s z) (hs : s < 55296) : signR m l = .ok s z := by
  unfold signR
  rw [h, bind_ok, if_pos (.inl hs)]
/-- A byte, as it is told in quotes, is read as it. -/
theorem quoted_esc (c : UInt8) (z : List UInt8) : quotedR (escB c ++ z) = (quotedR z).map (c :: ·) := by
  have two : ∀ (d : UInt8) (x : Int), simple d = some x → encodeRune x = [c] → quotedR (92 :: d :: z) = (quotedR z).map (c :: ·) := fun d x h1 h2 => by
    rw [quotedR_cons, if_neg (by decide), if_pos rfl, esc_plain _ _ _ _ h1]
    show (quotedR z).map (encodeRune x ++ ·) = _
    rw [h2]
    rfl
  unfold escB
  split
  · rename_i h; subst h; exact two 34 34 rfl (by decide)
  split
  · rename_i h; subst h; exact two 92 92 rfl (by decide)
  split
  · rename_i h; subst h; exact two 98 8 rfl (by decide)
  split
  · rename_i h; subst h; exact two 116 9 rfl (by decide)
  split
  · rename_i h; subst h; exact two 110 10 rfl (by decide)
  split
  · rename_i h; subst h; exact two 102 12 rfl (by decide)
  split
  · rename_i h; subst h; exact two 114 13 rfl (by decide)
  split
  · rename_i h34 h92 _ _ _ _ _ hc
    have hlt : c.toNat < 128 := by
      rcases hc with h | h
      · have := UInt8.lt_iff_toNat_lt.1 h
        simp at this
        omega
      · subst h; decide
    show quotedR (92 :: 117 :: 48 :: 48 :: hexC (c.toNat / 16) :: hexC (c.toNat % 16) :: z) = _
    rw [quotedR_cons, if_neg (by decide), if_pos rfl]
    have hs : signR ((117 :: 48 :: 48 :: hexC (c.toNat / 16) :: hexC (c.toNat % 16) :: z).length + 1) (48 :: 48 :: hexC (c.toNat / 16) :: hexC (c.toNat % 16) :: z) = .ok (c.toNat : Int) z := by
      have h4 := four_two ((117 :: 48 :: 48 :: hexC (c.toNat / 16) :: hexC (c.toNat % 16) :: z).length + 1) (c.toNat / 16) (c.toNat % 16) z (by omega) (by omega)
      rw [show ((c.toNat / 16 : Nat) : Int) * 16 + ((c.toNat % 16 : Nat) : Int) = (c.toNat : Int) from by omega] at h4
      exact sign_low h4 (by omega)
    have he : escR ((117 :: 48 :: 48 :: hexC (c.toNat / 16) :: hexC (c.toNat % 16) :: z).length + 1) (117 :: 48 :: 48 :: hexC (c.toNat / 16) :: hexC (c.toNat % 16) :: z) = .ok (c.toNat : Int) z := by
      unfold escR
      dsimp only
      rw [show simple 117 = none from by decide]
      dsimp only
      rw [if_pos rfl]
      exact hs
    rw [he]
    show (quotedR z).map (encodeRune (c.toNat : Int) ++ ·) = _
    rw [enc_small c hlt]
    rfl
  · rename_i h34 h92 _ _ _ _ _ hc
    show quotedR (c :: z) = _
    rw [quotedR_cons, if_neg h34, if_neg h92, if_neg (fun h => hc (.inl h))]
theorem quoted_body (t y : List UInt8) : quotedR (t.flatMap escB ++ 34 :: y) = .ok t y := by
  induction t with
  | nil => show quotedR (34 :: y) = _; rw [quotedR_cons, if_pos rfl]
  | cons c t ih =>
    rw [List.flatMap_cons, List.append_assoc, quoted_esc, ih]
    rfl
theorem quoted_text (t y : List UInt8) : quoteJ t ++ y = 34 :: (t.flatMap escB ++ 34 :: y) := by
  unfold quoteJ
  simp
theorem word_self (m : Nat) : ∀ (w y : List UInt8), wordR m w (w ++ y) = .ok () y
  | [], y => rfl
  | a :: w, y => by
    show (mustR m a (a :: (w ++ y))).bind _ = _
    rw [show mustR m a (a :: (w ++ y)) = .ok () (w ++ y) from if_pos rfl]
    exact word_self m w y
theorem num_plain (c : UInt8) : (isMin c = true ∨ dgB c = true) → wsB c = false ∧ c ≠ 91 ∧ c ≠ 123 ∧ c ≠ 34 ∧ c ≠ 110 ∧ c ≠ 116 ∧ c ≠ 102 ∧ c ≠ 93 ∧ c ≠ 125 := by revert c; apply byte_all; decide +kernel
/-- A plain value is read of its text. -/
theorem plain_text {k : Int} {t y : List UInt8} (h : textOf k t = true) (hy : sepd y) : ∃ c r, textJ (.mk k t [] []) ++ y = c :: r ∧ wsB c = false ∧ c ≠ 91 ∧ c ≠ 123 ∧ c ≠ 93 ∧ c ≠ 125 ∧ plainR c r = .ok (.mk k t [] []) y := by
  unfold textOf at h
  unfold textJ
  split at h
  · rename_i h1
    subst h1
    have : t = [] := by simpa using h
    subst this
    refine ⟨110, 117 :: 108 :: 108 :: y, rfl, rfl, by decide, by decide, by decide, by decide, ?_⟩
    unfold plainR
    rw [if_neg (by decide), if_pos rfl, show (110 : UInt8) :: 117 :: 108 :: 108 :: y = nullT ++ y from rfl, word_self]
    rfl
  rename_i h1
  split at h
  · rename_i h2
    subst h2
    rw [if_neg h1, if_neg (by decide), if_neg (by decide), if_neg (by decide)]
    rcases of_decide_eq_true h with rfl | rfl
    · refine ⟨116, 114 :: 117 :: 101 :: y, rfl, rfl, by decide, by decide, by decide, by decide, ?_⟩
      unfold plainR
      rw [if_neg (by decide), if_neg (by decide), if_pos rfl, show (116 : UInt8) :: 114 :: 117 :: 101 :: y = trueT ++ y from rfl, word_self]
      rfl
    · refine ⟨102, 97 :: 108 :: 115 :: 101 :: y, rfl, rfl, by decide, by decide, by decide, by decide, ?_⟩
      unfold plainR
      rw [if_neg (by decide), if_neg (by decide), if_neg (by decide), if_pos rfl, show (102 : UInt8) :: 97 :: 108 :: 115 :: 101 :: y = falseT ++ y from rfl, word_self]
      rfl
  rename_i h2
  split at h
  · rename_i h3
    subst h3
    rw [if_neg h1, if_neg (by decide), if_neg (by decide), if_neg (by decide)]
    obtain ⟨c, r, e, hc⟩ := num_head h
    obtain ⟨n1, n2, n3, n4, n5, n6, n7, n8, n9⟩ := num_plain c hc
    refine ⟨c, r ++ y, by rw [e]; rfl, n1, n2, n3, n8, n9, ?_⟩
    unfold plainR
    rw [if_neg n4, if_neg n5, if_neg n6, if_neg n7]
    have hn : numR (c :: (r ++ y)) = (y, true) := by
      have := numR_behind h hy
      rw [e] at this
      exact this
    unfold numV
    rw [hn, if_pos rfl]
    show R.ok _ y = _
    congr 1
    rw [e]
    congr 1
    have : (c :: (r ++ y)).length - y.length = (c :: r).length := by simp; omega
    rw [this]
    show ((c :: r) ++ y).take (c :: r).length = _
    exact List.take_left
  rename_i h3
  split at h
  · rename_i h4
    subst h4
    rw [if_neg h1, if_pos rfl]
    refine ⟨34, t.flatMap escB ++ 34 :: y, quoted_text t y, rfl, by decide, by decide, by decide, by decide, ?_⟩
    unfold plainR
    rw [if_pos rfl, quoted_body]
    rfl
  · cases h
/-- A value's text opens with no blank, and with no end of a list or a table. -/
def Opens (l : List UInt8) : Prop := ∃ c r, l = c :: r ∧ wsB c = false ∧ c ≠ 93 ∧ c ≠ 125
theorem sep_items (b : UInt8) (hb : numC b = false) (cs : List J) (y : List UInt8) : sepd (itemsJ false cs ++ b :: y) := by
  cases cs with
  | nil => exact hb
  | cons c cs => show numC 44 = false; decide
theorem sep_pairs (b : UInt8) (hb : numC b = false) (ks : List (List UInt8)) (cs : List J) (y : List UInt8) : sepd (pairsJ false ks cs ++ b :: y) := by
  cases cs with
  | nil => exact hb
  | cons c cs => show numC 44 = false; decide
/-- What is read of a value's text, with something behind. -/
def Reads (v : J) : Prop := ∀ (d n m : Nat) (y : List UInt8), d ≤ 64 → mayC v d n = some m → sepd y → valueR (64 - d) n (textJ v ++ y) = .ok (v, m) y ∧ Opens (textJ v ++ y)
theorem goes_end (e : UInt8) (he : wsB e = false) (y : List UInt8) : goesOn e (e :: y) = .ok false y := by
  unfold goesOn
  rw [takes_here e y he]
  rfl
theorem goes_comma (e : UInt8) (h44 : (44 : UInt8) ≠ e) (y : List UInt8) : goesOn e (44 :: y) = .ok true y := by
  unfold goesOn
  rw [takes_other y (by decide) h44]
  show (takes 44 (44 :: y)).bind _ = _
  rw [takes_here 44 y (by decide)]
  rfl
theorem items_text (k : Nat) : ∀ (cs : List J) (c : J) (n m : Nat) (ks : List (List UInt8)) (acc : List J) (y : List UInt8), (∀ v ∈ c :: cs, Reads v) → k < 64 → mayL (c :: cs) (64 - k) n = some m →
    loopR (stepL (valueR k)) 93 ⟨n, ks, acc⟩ (textJ c ++ (itemsJ false cs ++ 93 :: y)) = .ok ⟨m, ks, acc ++ c :: cs⟩ y
  | cs, c, n, m, ks, acc, y, hr, hk, hm => by
    unfold mayL at hm
    cases h1 : mayC c (64 - k) n with
    | none => rw [h1] at hm; cases hm
    | some n1 =>
      rw [h1] at hm
      dsimp only at hm
      have hv := (hr c (List.mem_cons_self ..) (64 - k) n n1 (itemsJ false cs ++ 93 :: y) (by omega) h1 (sep_items 93 (by decide) cs y)).1
      rw [show 64 - (64 - k) = k from by omega] at hv
      rw [loopR_eq (stepL_fine (value_fine k))]
      have hs : stepL (valueR k) ⟨n, ks, acc⟩ (textJ c ++ (itemsJ false cs ++ 93 :: y)) = .ok ⟨n1, ks, acc ++ [c]⟩ (itemsJ false cs ++ 93 :: y) := by
        show (valueR k n _).bind _ = _
        rw [hv]
        rfl
      rw [hs]
      cases cs with
      | nil =>
        rw [bind_ok, items_nil, List.nil_append, goes_end 93 (by decide), bind_ok]
        unfold mayL at hm
        cases hm
        rfl
      | cons c2 cs =>
        have e : itemsJ false (c2 :: cs) ++ 93 :: y = 44 :: (textJ c2 ++ (itemsJ false cs ++ 93 :: y)) := by
          show ([44] ++ (textJ c2 ++ itemsJ false cs)) ++ 93 :: y = _
          simp
        rw [e, bind_ok, goes_comma 93 (by decide), bind_ok, if_neg (by decide)]
        rw [items_text k cs c2 n1 m ks (acc ++ [c]) y (fun v hv => hr v (List.mem_cons_of_mem _ hv)) hk hm]
        simp
termination_by cs => cs.length
theorem key_text (ks : List (List UInt8)) (t y : List UInt8) (h : t ∉ ks) : keyR ks (quoteJ t ++ y) = .ok t y := by
  unfold keyR
  rw [quoted_text, skip_none _ (by decide)]
  dsimp only
  rw [if_pos rfl, quoted_body]
  show (if t ∈ ks then _ else _) = _
  rw [if_neg h]
theorem pairs_text (k : Nat) : ∀ (cs : List J) (c : J) (t : List UInt8) (ts : List (List UInt8)) (n m : Nat) (ks : List (List UInt8)) (acc : List J) (y : List UInt8), (∀ v ∈ c :: cs, Reads v) → k < 64 → ts.length = cs.length → (ks ++ t :: ts).Nodup → mayL (c :: cs) (64 - k) n = some m →
    loopR (stepT (valueR k)) 125 ⟨n, ks, acc⟩ (quoteJ t ++ (58 :: (textJ c ++ (pairsJ false ts cs ++ 125 :: y)))) = .ok ⟨m, ks ++ t :: ts, acc ++ c :: cs⟩ y
  | cs, c, t, ts, n, m, ks, acc, y, hr, hk, hl, hnd, hm => by
    unfold mayL at hm
    cases h1 : mayC c (64 - k) n with
    | none => rw [h1] at hm; cases hm
    | some n1 =>
      rw [h1] at hm
      dsimp only at hm
      have hv := (hr c (List.mem_cons_self ..) (64 - k) n n1 (pairsJ false ts cs ++ 125 :: y) (by omega) h1 (sep_pairs 125 (by decide) ts cs y)).1
      rw [show 64 - (64 - k) = k from by omega] at hv
      have hin : t ∉ ks := by
        intro hmem
        rw [List.nodup_append] at hnd
        exact hnd.2.2 t hmem t (List.mem_cons_self ..) rfl
      rw [loopR_eq (stepT_fine (value_fine k))]
      have hs : stepT (valueR k) ⟨n, ks, acc⟩ (quoteJ t ++ (58 :: (textJ c ++ (pairsJ false ts cs ++ 125 :: y)))) = .ok ⟨n1, ks ++ [t], acc ++ [c]⟩ (pairsJ false ts cs ++ 125 :: y) := by
        unfold stepT
        rw [key_text ks t _ hin, bind_ok, takes_here 58 _ (by decide), bind_ok, if_pos rfl]
        show (valueR k n (textJ c ++ (pairsJ false ts cs ++ 125 :: y))).bind _ = _
        rw [hv]
        rfl
      rw [hs]
      cases cs with
      | nil =>
        cases ts with
        | cons _ _ => simp at hl
        | nil =>
          rw [bind_ok, pairs_nil, List.nil_append, goes_end 125 (by decide), bind_ok]
          unfold mayL at hm
          cases hm
          rfl
      | cons c2 cs =>
        cases ts with
        | nil => simp at hl
        | cons t2 ts =>
          have e : pairsJ false (t2 :: ts) (c2 :: cs) ++ 125 :: y = 44 :: (quoteJ t2 ++ (58 :: (textJ c2 ++ (pairsJ false ts cs ++ 125 :: y)))) := by
            show ([44] ++ (quoteJ t2 ++ (58 :: (textJ c2 ++ pairsJ false ts cs)))) ++ 125 :: y = _
            simp
          rw [e, bind_ok, goes_comma 125 (by decide), bind_ok, if_neg (by decide)]
          rw [pairs_text k cs c2 t2 ts n1 m (ks ++ [t]) (acc ++ [c]) y (fun v hv => hr v (List.mem_cons_of_mem _ hv)) hk (by simpa using hl) (by simpa using hnd) hm]
          simp
termination_by cs => cs.length
/-- A value that may be is read of its text, whatever may stand behind. -/
theorem reads_all : ∀ v, Reads v := by
  intro v
  induction v using J.ind with
  | h k t ks cs ih =>
    intro d n m y hd hm hy
    unfold mayC at hm
    split at hm
    · cases hm
    rename_i hn
    have hval : ∀ (c : UInt8) (r : List UInt8), wsB c = false → valueR (64 - d) n (c :: r) = if c = 91 ∨ c = 123 then (match 64 - d with | 0 => .err 8 (r.length + 1) | j + 1 => nestG (valueR j) c (n + 1) r) else (plainR c r).map fun v => (v, n + 1) := fun c r hc => by
      have hv : ∀ nest, valueG nest n (c :: r) = if c = 91 ∨ c = 123 then nest c (n + 1) r else (plainR c r).map fun v => (v, n + 1) := fun nest => by
        unfold valueG
        rw [skip_none r hc]
        dsimp only
        rw [if_neg (by omega)]
      cases 64 - d with
      | zero => exact hv _
      | succ j => exact hv _
    split at hm
    · rename_i h5
      subst h5
      split at hm
      · rename_i hc
        obtain ⟨rfl, rfl, hd2⟩ := hc
        have e : textJ (.mk 5 [] [] cs) ++ y = 91 :: (itemsJ true cs ++ 93 :: y) := by
          show (91 :: (itemsJ true cs ++ [93])) ++ y = _
          simp
        rw [e]
        refine ⟨?_, 91, _, rfl, by decide, by decide, by decide⟩
        obtain ⟨j, hj⟩ : ∃ j, 64 - d = j + 1 := ⟨63 - d, by omega⟩
        rw [hval 91 _ (by decide), if_pos (.inl rfl), hj]
        show nestG (valueR j) 91 (n + 1) _ = _
        unfold nestG
        rw [if_pos rfl]
        unfold nestR
        rw [show d + 1 = 64 - j from by omega] at hm
        cases cs with
        | nil =>
          show ((takes 93 (93 :: y)).bind _).map _ = _
          rw [takes_here 93 y (by decide)]
          unfold mayL at hm
          cases hm
          rfl
        | cons c cs =>
          have e2 : itemsJ true (c :: cs) ++ 93 :: y = textJ c ++ (itemsJ false cs ++ 93 :: y) := by
            show ([] ++ (textJ c ++ itemsJ false cs)) ++ 93 :: y = _
            simp
          have hm1 : ∃ n1, mayC c (64 - j) (n + 1) = some n1 := by
            have hm2 := hm
            unfold mayL at hm2
            cases h1 : mayC c (64 - j) (n + 1) with
            | none => rw [h1] at hm2; cases hm2
            | some n1 => exact ⟨n1, rfl⟩
          obtain ⟨n1, hm1⟩ := hm1
          obtain ⟨x, r, ex, hx1, hx2, hx3⟩ := (ih c (List.mem_cons_self ..) (64 - j) (n + 1) n1 (itemsJ false cs ++ 93 :: y) (by omega) hm1 (sep_items 93 (by decide) cs y)).2
          have hl := items_text j cs c (n + 1) m [] [] y ih (by omega) hm
          rw [e2, ex, takes_other r hx1 hx2]
          rw [ex] at hl
          show (loopR (stepL (valueR j)) 93 ⟨n + 1, [], []⟩ (x :: r)).map _ = _
          rw [hl]
          rfl
      · cases hm
    rename_i h5
    split at hm
    · rename_i h6
      subst h6
      split at hm
      · rename_i hc
        obtain ⟨rfl, hlen, hd2⟩ := hc
        split at hm
        · rename_i hkeys
          have hnd : ks.Nodup := by
            unfold keysOK at hkeys
            rw [Bool.and_eq_true] at hkeys
            exact of_decide_eq_true hkeys.2
          have e : textJ (.mk 6 [] ks cs) ++ y = 123 :: (pairsJ true ks cs ++ 125 :: y) := by
            show (123 :: (pairsJ true ks cs ++ [125])) ++ y = _
            simp
          rw [e]
          refine ⟨?_, 123, _, rfl, by decide, by decide, by decide⟩
          obtain ⟨j, hj⟩ : ∃ j, 64 - d = j + 1 := ⟨63 - d, by omega⟩
          rw [hval 123 _ (by decide), if_pos (.inr rfl), hj]
          show nestG (valueR j) 123 (n + 1) _ = _
          unfold nestG
          rw [if_neg (by decide)]
          unfold nestR
          rw [show d + 1 = 64 - j from by omega] at hm
          cases cs with
          | nil =>
            have : ks = [] := List.eq_nil_of_length_eq_zero hlen
            subst this
            show ((takes 125 (125 :: y)).bind _).map _ = _
            rw [takes_here 125 y (by decide)]
            unfold mayL at hm
            cases hm
            rfl
          | cons c cs =>
            cases ks with
            | nil => simp at hlen
            | cons t ts =>
              have e2 : pairsJ true (t :: ts) (c :: cs) ++ 125 :: y = quoteJ t ++ (58 :: (textJ c ++ (pairsJ false ts cs ++ 125 :: y))) := by
                show ([] ++ (quoteJ t ++ (58 :: (textJ c ++ pairsJ false ts cs)))) ++ 125 :: y = _
                simp
              have hl := pairs_text j cs c t ts (n + 1) m [] [] y ih (by omega) (by simpa using hlen) (by simpa using hnd) hm
              rw [e2]
              rw [quoted_text] at hl ⊢
              rw [takes_other _ (by decide) (by decide)]
              show (loopR (stepT (valueR j)) 125 ⟨n + 1, [], []⟩ (34 :: _)).map _ = _
              rw [hl]
              rfl
        · cases hm
      · cases hm
    rename_i h6
    split at hm
    · rename_i hc
      obtain ⟨rfl, rfl, ht⟩ := hc
      cases hm
      obtain ⟨c, r, e, h1, h2, h3, h4, h5', hp⟩ := plain_text ht hy
      rw [e]
      refine ⟨?_, c, r, rfl, h1, h4, h5'⟩
      rw [hval c r h1, if_neg (by simp [h2, h3]), hp]
      rfl
    · cases hm
/-- A value that may be is parsed of its text. -/
theorem whole_text {v : J} (h : mayJ v = true) : wholeR (textJ v) = .ok v [] := by
  unfold mayJ at h
  obtain ⟨m, hm⟩ := Option.isSome_iff_exists.1 h
  have := (reads_all v 0 0 m [] (by omega) hm rfl).1
  rw [List.append_nil] at this
  unfold wholeR
  show (valueR 64 0 (textJ v)).bind _ = _
  rw [show valueR 64 0 (textJ v) = .ok (v, m) [] from this]
  rfl
end Jsn
/- JSON texts: what is read of a text may be, and its own text is not much longer. -/
set_option linter.unusedVariables false
namespace Jsn
open Asc
open Go.Lib (encodeRune)
theorem text_low (c : UInt8) (r : List UInt8) (h : c.toNat < 128) : Utf.isText (c :: r) = Utf.isText r := by
  have hp : Utf.part (c :: r) = (1, true) := Utf.part_1 _ _ _ _ _ h
  rw [Utf.isText_go _ (List.cons_ne_nil _ _), hp]
  rfl
/-- Bytes below 128, ahead of what is left. -/
def Low (l z : List UInt8) : Prop := ∃ p, l = p ++ z ∧ ∀ c ∈ p, c.toNat < 128
theorem Low.refl (l : List UInt8) : Low l l := ⟨[], rfl, fun c h => by cases h⟩
theorem Low.trans {a b c : List UInt8} (h : Low a b) (k : Low b c) : Low a c := by
  obtain ⟨p, rfl, hp⟩ := h
  obtain ⟨q, rfl, hq⟩ := k
  exact ⟨p ++ q, by simp, fun x hx => by rcases List.mem_append.1 hx with h | h; exact hp x h; exact hq x h⟩
theorem Low.cons {c : UInt8} {l z : List UInt8} (h : c.toNat < 128) (k : Low l z) : Low (c :: l) z := by
  obtain ⟨p, rfl, hp⟩ := k
  exact ⟨c :: p, rfl, fun x hx => by rcases List.mem_cons.1 hx with rfl | h2; exact h; exact hp x h2⟩
theorem Low.text {l z : List UInt8} (h : Low l z) : Utf.isText l = Utf.isText z := by
  obtain ⟨p, rfl, hp⟩ := h
  induction p with
  | nil => rfl
  | cons c p ih => rw [List.cons_append, text_low c _ (hp c (List.mem_cons_self ..))]; exact ih fun x hx => hp x (List.mem_cons_of_mem _ hx)
theorem ws_low (c : UInt8) : wsB c = true → c.toNat < 128 := by revert c; apply byte_all; decide +kernel
theorem hex_low (c : UInt8) : hexOk (bt c) = true → c.toNat < 128 := by revert c; apply byte_all; decide +kernel
theorem num_low (c : UInt8) : numC c = true → c.toNat < 128 := by revert c; apply byte_all; decide +kernel
theorem skip_low : ∀ l : List UInt8, Low l (skip l)
  | [] => Low.refl _
  | c :: l => by
    cases h : wsB c
    · rw [skip_none l h]; exact Low.refl _
    · rw [show skip (c :: l) = skip l from List.dropWhile_cons_of_pos h]
      exact Low.cons (ws_low c h) (skip_low l)
theorem four_low (m : Nat) : ∀ (k : Nat) (v : Int) (l : List UInt8) (x : Int) (z : List UInt8), four m k v l = .ok x z → Low l z
  | 0, v, l, x, z, h => by cases h; exact Low.refl _
  | k + 1, v, [], x, z, h => by cases h
  | k + 1, v, c :: l, x, z, h => by
    unfold four at h
    split at h
    · rename_i hc
      exact Low.cons (hex_low c hc) (four_low m k _ l x z h)
    · cases h
theorem must_low {m : Nat} {c : UInt8} {l z : List UInt8} {u : Unit} (hc : c.toNat < 128) (h : mustR m c l = .ok u z) : Low l z := by
  cases l with
  | nil => cases h
  | cons d t =>
    replace h : (if d = c then (.ok () t : R Unit) else .err 3 m) = .ok u z := h
    split at h
    · rename_i e; cases h; subst e; exact Low.cons hc (Low.refl _)
    · cases h
theorem bind_inv {α β : Type} {x : R α} {f : α → List UInt8 → R β} {b : β} {z : List UInt8} (h : x.bind f = .ok b z) : ∃ a l, x = .ok a l ∧ f a l = .ok b z := by
  cases x with
  | ok a l => exact ⟨a, l, rfl, h⟩
  | err w n => cases h
theorem map_inv {α β : Type} {x : R α} {f : α → β} {b : β} {z : List UInt8} (h : x.map f = .ok b z) : ∃ a, x = .ok a z ∧ f a = b := by
  cases x with
  | ok a l => cases h; exact ⟨a, rfl, rfl⟩
  | err w n => cases h
theorem sign_Low {m : Nat} {l z : List UInt8} {x : Int} (h : signR m l = .ok x z) : Low l z := by
  obtain ⟨s, l1, h1, h⟩ := bind_inv h
  have k1 := four_low m 4 0 l s l1 h1
  split at h
  · cases h; exact k1
  split at h
  · cases h
  obtain ⟨_, l2, h2, h⟩ := bind_inv h
  obtain ⟨_, l3, h3, h⟩ := bind_inv h
  obtain ⟨g, l4, h4, h⟩ := bind_inv h
  split at h
  · cases h
  · cases h
    exact ((k1.trans (must_low (by decide) h2)).trans (must_low (by decide) h3)).trans (four_low m 4 0 _ _ _ h4)
theorem simple_low (c : UInt8) : (simple c).isSome = true → c.toNat < 128 := by revert c; apply byte_all; decide +kernel
theorem esc_Low {m : Nat} {l z : List UInt8} {x : Int} (h : escR m l = .ok x z) : Low l z := by
  cases l with
  | nil => cases h
  | cons c r =>
    unfold escR at h
    dsimp only at h
    split at h
    · rename_i v hv
      cases h
      exact Low.cons (simple_low c (by rw [hv]; rfl)) (Low.refl _)
    · split at h
      · rename_i hu
        subst hu
        exact Low.cons (by decide) (sign_Low h)
      · cases h
theorem esc_short {m : Nat} {l z : List UInt8} {x : Int} (h : escR m l = .ok x z) : z.length < l.length := by
  cases l with
  | nil => cases h
  | cons c r =>
    unfold escR at h
    dsimp only at h
    split at h
    · cases h; simp
    · split at h
      · have := sign_fine m r
        rw [h] at this
        have := List.IsSuffix.length_le this
        simp; omega
      · cases h
theorem quoted_high : ∀ (x y : List UInt8), (∀ c ∈ x, 128 ≤ c.toNat) → quotedR (x ++ y) = (quotedR y).map (x ++ ·)
  | [], y, _ => by rw [List.nil_append]; cases quotedR y <;> rfl
  | c :: x, y, h => by
    have hc := h c (List.mem_cons_self ..)
    have n34 : c ≠ 34 := by rintro rfl; revert hc; decide
    have n92 : c ≠ 92 := by rintro rfl; revert hc; decide
    have n32 : ¬ c < 32 := by intro e; have := UInt8.lt_iff_toNat_lt.1 e; simp at this; omega
    rw [List.cons_append, quotedR_cons, if_neg n34, if_neg n92, if_neg n32, quoted_high x y (fun d hd => h d (List.mem_cons_of_mem _ hd))]
    cases quotedR y <;> rfl
theorem esc_len_le (c : UInt8) : (escB c).length ≤ 6 := by revert c; apply byte_all; decide +kernel
theorem esc_high (c : UInt8) : 128 ≤ c.toNat → escB c = [c] := by revert c; apply byte_all; decide +kernel
/-- How long a text is in quotes, but for these. -/
def escLen (t : List UInt8) : Nat := (t.flatMap escB).length
theorem escLen_cons (c : UInt8) (t : List UInt8) : escLen (c :: t) ≤ escLen t + 6 := by
  unfold escLen
  rw [List.flatMap_cons, List.length_append]
  have := esc_len_le c
  omega
theorem escLen_app (x t : List UInt8) : escLen (x ++ t) = escLen x + escLen t := by
  unfold escLen
  rw [List.flatMap_append, List.length_append]
theorem escLen_high : ∀ x : List UInt8, (∀ c ∈ x, 128 ≤ c.toNat) → escLen x = x.length
  | [], _ => rfl
  | c :: x, h => by
    have := escLen_high x fun d hd => h d (List.mem_cons_of_mem _ hd)
    unfold escLen at this ⊢
    rw [List.flatMap_cons, List.length_append, this, esc_high c (h c (List.mem_cons_self ..))]
    simp; omega
theorem enc_high (x : Int) : (encodeRune x).length = 1 ∨ ∀ c ∈ encodeRune x, 128 ≤ c.toNat := by
  have hb : ∀ l : List Int, (∀ y ∈ l, 128 ≤ y ∧ y < 256) → ∀ c ∈ l.map (fun y => y.toNat.toUInt8), 128 ≤ c.toNat := by
    intro l hl c hc
    obtain ⟨y, hy, rfl⟩ := List.mem_map.1 hc
    have := hl y hy
    rw [Utf.byteZ y (by omega) this.2]
    omega
  unfold encodeRune Go.Lib.encodeRuneZ
  split
  · exact .inl rfl
  right
  split
  · apply hb
    intro y hy
    simp only [List.mem_cons, List.not_mem_nil, or_false] at hy
    rcases hy with rfl | rfl <;> omega
  split
  · apply hb
    intro y hy
    simp only [List.mem_cons, List.not_mem_nil, or_false] at hy
    rcases hy with rfl | rfl | rfl <;> omega
  split
  · apply hb
    intro y hy
    simp only [List.mem_cons, List.not_mem_nil, or_false] at hy
    rcases hy with rfl | rfl | rfl | rfl <;> omega
  · apply hb
    intro y hy
    simp only [List.mem_cons, List.not_mem_nil, or_false] at hy
    rcases hy with rfl | rfl | rfl <;> omega
theorem escLen_enc (x : Int) : escLen (encodeRune x) ≤ 6 := by
  rcases enc_high x with h | h
  · match hE : encodeRune x, h with
    | [c], _ => exact esc_len_le c |> fun k => by unfold escLen; simpa using k
  · rw [escLen_high _ h]
    have := (Utf.enc_len x).1
    omega
/-- Whether what is in quotes is a text, and what is behind; and how long it is in quotes. -/
theorem quoted_ok (l : List UInt8) : ∀ t z, quotedR l = .ok t z → Utf.isText l = true → Utf.isText t = true ∧ Utf.isText z = true ∧ escLen t + 6 * z.length + 6 ≤ 6 * l.length := by
  induction hn : l.length using Nat.strongRecOn generalizing l with
  | _ n ih =>
    subst hn
    intro t z h ht
    cases l with
    | nil => rw [quotedR_nil] at h; cases h
    | cons c r =>
      by_cases hc : c.toNat < 128
      · rw [text_low c r hc] at ht
        rw [quotedR_cons] at h
        simp only [List.length_cons]
        split at h
        · cases h
          exact ⟨Utf.isText_nil, ht, by unfold escLen; simp; omega⟩
        split at h
        · obtain ⟨x, y, he, h⟩ := bind_inv h
          obtain ⟨t', hq, rfl⟩ := map_inv h
          have hy := esc_short he
          have hty := (esc_Low he).text
          rw [ht] at hty
          obtain ⟨k1, k2, k3⟩ := ih y.length (by simp only [List.length_cons]; omega) y rfl t' z hq hty.symm
          refine ⟨by rw [Utf.isText_put]; exact k1, k2, ?_⟩
          have := escLen_enc x
          rw [escLen_app]
          omega
        split at h
        · cases h
        · obtain ⟨t', hq, rfl⟩ := map_inv h
          obtain ⟨k1, k2, k3⟩ := ih r.length (by simp) r rfl t' z hq ht
          refine ⟨by rw [text_low c _ hc]; exact k1, k2, ?_⟩
          have := escLen_cons c t'
          omega
      · have hg := Utf.isText_go (c :: r) (List.cons_ne_nil _ _)
        rw [ht] at hg
        have hg2 := Bool.and_eq_true_iff.1 hg.symm
        obtain ⟨hr, he⟩ := Utf.whole (c :: r) (List.cons_ne_nil _ _) hg2.1
        have hk1 := Utf.part_pos (c :: r)
        have hk2 := Utf.part_len (c :: r) (List.cons_ne_nil _ _)
        generalize hK : (Utf.part (c :: r)).1 = K at *
        have hx : ∀ d ∈ (c :: r).take K, 128 ≤ d.toNat := by
          intro d hd
          obtain ⟨j, hj, rfl⟩ := List.mem_iff_getElem.1 hd
          rw [List.length_take] at hj
          rw [List.getElem_take]
          by_cases hj0 : j = 0
          · subst hj0
            show 128 ≤ c.toNat
            omega
          · have := (Utf.part_cont (c :: r) j (by omega) (by rw [hK]; omega)).1
            unfold Utf.at' at this
            rw [List.getD_eq_getElem?_getD, List.getElem?_eq_getElem (by omega)] at this
            exact this
        have hsplit : (c :: r).take K ++ (c :: r).drop K = c :: r := List.take_append_drop K _
        rw [← hsplit, quoted_high _ _ hx] at h
        obtain ⟨t', hq, rfl⟩ := map_inv h
        have hdl : ((c :: r).drop K).length = (c :: r).length - K := List.length_drop
        obtain ⟨k1, k2, k3⟩ := ih ((c :: r).drop K).length (by rw [hdl]; simp; omega) _ rfl t' z hq hg2.2
        refine ⟨?_, k2, ?_⟩
        · rw [← he, Utf.isText_put]; exact k1
        · rw [escLen_app, escLen_high _ hx, List.length_take]
          rw [hdl] at k3
          omega
theorem word_Low (m : Nat) : ∀ (w l : List UInt8) (u : Unit) (z : List UInt8), (∀ c ∈ w, c.toNat < 128) → wordR m w l = .ok u z → Low l z ∧ l = w ++ z
  | [], l, u, z, _, h => by cases h; exact ⟨Low.refl _, rfl⟩
  | a :: w, l, u, z, hw, h => by
    obtain ⟨_, r, h1, h2⟩ := bind_inv h
    have k1 := must_low (hw a (List.mem_cons_self ..)) h1
    have e : l = a :: r := by
      cases l with
      | nil => cases h1
      | cons d t =>
        replace h1 : (if d = a then (.ok () t : R Unit) else .err 3 m) = _ := h1
        split at h1
        · rename_i e; cases h1; rw [e]
        · cases h1
    have := word_Low m w r u z (fun c hc => hw c (List.mem_cons_of_mem _ hc)) h2
    exact ⟨k1.trans this.1, by rw [e, this.2]; rfl⟩
theorem exp_low (c : UInt8) : isExp c = true → c.toNat < 128 := by revert c; apply byte_all; decide +kernel
theorem shape_low {p : List UInt8} (h : isNum p = true) : ∀ c ∈ p, c.toNat < 128 := by
  obtain ⟨m, i, f, e, hm, hi, hf, he, rfl⟩ := (isNum_iff p).1 h
  have hd : ∀ d : List UInt8, digitsP d → ∀ c ∈ d, c.toNat < 128 := fun d hd c hc => num_low c (dg_sgn c (List.all_eq_true.1 hd.2 c hc)).2.2.2.2
  intro c hc
  simp only [List.mem_append] at hc
  rcases hc with hc | hc | hc | hc
  · rcases hm with rfl | rfl
    · cases hc
    · simp at hc; subst hc; decide
  · rcases hi with rfl | ⟨h1, _⟩
    · simp at hc; subst hc; decide
    · exact hd i h1 c hc
  · rcases hf with rfl | ⟨d, rfl, h1⟩
    · cases hc
    · rcases List.mem_cons.1 hc with rfl | h2
      · decide
      · exact hd d h1 c h2
  · rcases he with rfl | ⟨g, s, d, hg, hs, h1, rfl⟩
    · cases hc
    · rcases List.mem_cons.1 hc with rfl | h2
      · exact exp_low c hg
      · rcases List.mem_append.1 h2 with h3 | h3
        · rcases hs with rfl | rfl | rfl
          · cases h3
          · simp at h3; subst h3; decide
          · simp at h3; subst h3; decide
        · exact hd d h1 c h3
theorem numV_ok {l t z : List UInt8} (h : numV l = .ok t z) : isNum t = true ∧ l = t ++ z := by
  unfold numV at h
  split at h
  · rename_i hw
    cases h
    have e : numR l = ((numR l).1, true) := by rw [← hw]
    obtain ⟨p, hp, hn⟩ := numR_part e
    generalize (numR l).1 = y at *
    subst hp
    have : (p ++ y).take ((p ++ y).length - y.length) = p := by simp
    rw [this]
    exact ⟨hn, rfl⟩
  · split at h <;> cases h
theorem plain_ok {c : UInt8} {r z : List UInt8} {v : J} (h : plainR c r = .ok v z) (ht : Utf.isText (c :: r) = true) :
    ∃ k t, v = .mk k t [] [] ∧ k ≠ 5 ∧ k ≠ 6 ∧ textOf k t = true ∧ Utf.isText z = true ∧ (textJ v).length + 6 * z.length ≤ 6 * (r.length + 1) := by
  unfold plainR at h
  split at h
  · rename_i h34
    subst h34
    obtain ⟨t, hq, rfl⟩ := map_inv h
    rw [text_low 34 r (by decide)] at ht
    obtain ⟨k1, k2, k3⟩ := quoted_ok r t z hq ht
    refine ⟨4, t, rfl, by decide, by decide, k1, k2, ?_⟩
    have : (textJ (.mk 4 t [] [])).length = escLen t + 2 := by
      show (quoteJ t).length = _
      unfold quoteJ escLen
      simp
    rw [this]
    omega
  split at h
  · obtain ⟨u, hw, rfl⟩ := map_inv h
    obtain ⟨k1, k2⟩ := word_Low _ nullT _ u z (by decide) hw
    refine ⟨1, [], rfl, by decide, by decide, rfl, by rw [← k1.text]; exact ht, ?_⟩
    have := congrArg List.length k2
    simp only [List.length_append, List.length_cons] at this
    show nullT.length + _ ≤ _
    have e : nullT.length = 4 := rfl
    omega
  split at h
  · obtain ⟨u, hw, rfl⟩ := map_inv h
    obtain ⟨k1, k2⟩ := word_Low _ trueT _ u z (by decide) hw
    refine ⟨2, trueT, rfl, by decide, by decide, rfl, by rw [← k1.text]; exact ht, ?_⟩
    have := congrArg List.length k2
    simp only [List.length_append, List.length_cons] at this
    show trueT.length + _ ≤ _
    omega
  split at h
  · obtain ⟨u, hw, rfl⟩ := map_inv h
    obtain ⟨k1, k2⟩ := word_Low _ falseT _ u z (by decide) hw
    refine ⟨2, falseT, rfl, by decide, by decide, rfl, by rw [← k1.text]; exact ht, ?_⟩
    have := congrArg List.length k2
    simp only [List.length_append, List.length_cons] at this
    show falseT.length + _ ≤ _
    omega
  · obtain ⟨t, hn, rfl⟩ := map_inv h
    obtain ⟨k1, k2⟩ := numV_ok hn
    have hl : Low (c :: r) z := ⟨t, k2, shape_low k1⟩
    refine ⟨3, t, rfl, by decide, by decide, k1, by rw [← hl.text]; exact ht, ?_⟩
    have := congrArg List.length k2
    simp only [List.length_append, List.length_cons] at this
    show t.length + _ ≤ _
    omega
theorem takes_ok {c : UInt8} {l z : List UInt8} {is : Bool} (hc : c.toNat < 128) (h : takes c l = .ok is z) : Low l z := by
  cases is with
  | true =>
    have := (takes_true h).1
    have k := skip_low l
    rw [this] at k
    exact k.trans (Low.cons hc (Low.refl _))
  | false =>
    have := (takes_false h).1
    rw [← this]
    exact skip_low l
theorem goes_ok {e : UInt8} {l z : List UInt8} {m : Bool} (he : e.toNat < 128) (h : goesOn e l = .ok m z) : Low l z ∧ z.length < l.length := by
  obtain ⟨is, r, h1, h⟩ := bind_inv h
  have k1 := takes_ok he h1
  split at h
  · rename_i e1
    subst e1
    cases h
    exact ⟨k1, (takes_true h1).2⟩
  · obtain ⟨is2, y, h2, h⟩ := bind_inv h
    split at h
    · rename_i e2
      subst e2
      cases h
      have hf := takes_fine e l
      rw [h1] at hf
      exact ⟨k1.trans (takes_ok (by decide) h2), Nat.lt_of_lt_of_le (takes_true h2).2 (List.IsSuffix.length_le hf)⟩
    · cases h
theorem loop_inv {step : St → List UInt8 → R St} (hs : StepFine step) {e : UInt8} {I : St → List UInt8 → Prop}
    (hstep : ∀ s l s1 l1 m l2, I s l → step s l = .ok s1 l1 → goesOn e l1 = .ok m l2 → I s1 l2) (l : List UInt8) : ∀ s s' z, I s l → loopR step e s l = .ok s' z → I s' z := by
  induction hn : l.length using Nat.strongRecOn generalizing l with
  | _ n ih =>
    subst hn
    intro s s' z hI h
    rw [loopR_eq hs] at h
    obtain ⟨s1, l1, h1, h⟩ := bind_inv h
    obtain ⟨m, l2, h2, h⟩ := bind_inv h
    have hI2 := hstep s l s1 l1 m l2 hI h1 h2
    cases m with
    | false => cases h; exact hI2
    | true =>
      rw [if_neg (by decide)] at h
      have hf := hs s l
      rw [h1] at hf
      exact ih l2.length (Nat.lt_of_lt_of_le (goes_true h2) (List.IsSuffix.length_le hf)) l2 rfl s1 s' z hI2 h
theorem mayL_snoc : ∀ (cs : List J) (c : J) (d n m p : Nat), mayL cs d n = some m → mayC c d m = some p → mayL (cs ++ [c]) d n = some p
  | [], c, d, n, m, p, h, hc => by
    unfold mayL at h
    cases h
    show mayL [c] d n = some p
    unfold mayL
    rw [hc]
    dsimp only
    unfold mayL
    rfl
  | x :: cs, c, d, n, m, p, h, hc => by
    show mayL (x :: (cs ++ [c])) d n = some p
    unfold mayL at h ⊢
    cases h1 : mayC x d n with
    | none => rw [h1] at h; cases h
    | some q =>
      rw [h1] at h
      exact mayL_snoc cs c d q m p h hc
def sumT (cs : List J) : Nat := (cs.map fun c => (textJ c).length + 1).sum
def sumQ (ks : List (List UInt8)) : Nat := (ks.map fun k => escLen k + 4).sum
theorem sumT_snoc (cs : List J) (c : J) : sumT (cs ++ [c]) = sumT cs + ((textJ c).length + 1) := by simp [sumT]
theorem sumQ_snoc (ks : List (List UInt8)) (k : List UInt8) : sumQ (ks ++ [k]) = sumQ ks + (escLen k + 4) := by simp [sumQ]
theorem items_len : ∀ (cs : List J) (b : Bool), (itemsJ b cs).length ≤ sumT cs
  | [], b => by rw [items_nil]; exact Nat.zero_le _
  | c :: cs, b => by
    have := items_len cs false
    have e : itemsJ b (c :: cs) = (if b = true then [] else [44]) ++ (textJ c ++ itemsJ false cs) := by rw [itemsJ]
    rw [e]
    have e2 : sumT (c :: cs) = (textJ c).length + 1 + sumT cs := by simp [sumT]
    rw [e2]
    cases b <;> simp <;> omega
theorem pairs_len : ∀ (cs : List J) (ks : List (List UInt8)) (b : Bool), ks.length = cs.length → (pairsJ b ks cs).length ≤ sumT cs + sumQ ks
  | [], ks, b, _ => by rw [pairs_nil]; exact Nat.zero_le _
  | c :: cs, [], b, h => by simp at h
  | c :: cs, k :: ks, b, h => by
    have := pairs_len cs ks false (by simpa using h)
    have e : pairsJ b (k :: ks) (c :: cs) = (if b = true then [] else [44]) ++ (quoteJ k ++ (58 :: (textJ c ++ pairsJ false ks cs))) := by rw [pairsJ]; rfl
    rw [e]
    have e2 : sumT (c :: cs) = (textJ c).length + 1 + sumT cs := by simp [sumT]
    have e3 : sumQ (k :: ks) = escLen k + 4 + sumQ ks := by simp [sumQ]
    have e4 : (quoteJ k).length = escLen k + 2 := by unfold quoteJ escLen; simp
    rw [e2, e3]
    cases b <;> simp [e4] <;> omega
/-- What is read may be, and its text is not much longer than what was read. -/
def Right (k : Nat) : Prop := ∀ (n : Nat) (l : List UInt8) (v : J) (m : Nat) (z : List UInt8), valueR k n l = .ok (v, m) z → n ≤ 4096 → Utf.isText l = true → mayC v (64 - k) n = some m ∧ m ≤ 4096 ∧ Utf.isText z = true ∧ (textJ v).length + 6 * z.length ≤ 6 * l.length
theorem value_inv {nest : UInt8 → Nat → List UInt8 → R (J × Nat)} {n m : Nat} {l z : List UInt8} {v : J} (h : valueG nest n l = .ok (v, m) z) (hn : n ≤ 4096) : ∃ c r, skip l = c :: r ∧ n < 4096 ∧ ((c = 91 ∨ c = 123) ∧ nest c (n + 1) r = .ok (v, m) z ∨ ¬ (c = 91 ∨ c = 123) ∧ plainR c r = .ok v z ∧ m = n + 1) := by
  unfold valueG at h
  split at h
  · cases h
  · rename_i c r e
    split at h
    · cases h
    · rename_i hne
      refine ⟨c, r, e, by omega, ?_⟩
      split at h
      · rename_i hc; exact .inl ⟨hc, h⟩
      · rename_i hc
        obtain ⟨a, ha, hb⟩ := map_inv h
        cases hb
        exact .inr ⟨hc, ha, rfl⟩
/-- What a List or a Table is read as, where so many may lie in one another. -/
def nestJ (k : Nat) (c : UInt8) (n : Nat) (r : List UInt8) : R (J × Nat) := match k with
  | 0 => .err 8 (r.length + 1)
  | j + 1 => nestG (valueR j) c n r
theorem value_nestJ (k : Nat) : valueR k = valueG (nestJ k) := by cases k <;> rfl
def NestRight (k : Nat) : Prop := ∀ (c : UInt8) (n : Nat) (r : List UInt8) (v : J) (m : Nat) (z : List UInt8), (c = 91 ∨ c = 123) → nestJ k c (n + 1) r = .ok (v, m) z → n < 4096 → Utf.isText r = true → mayC v (64 - k) n = some m ∧ m ≤ 4096 ∧ Utf.isText z = true ∧ (textJ v).length + 6 * z.length ≤ 6 * r.length + 6
theorem right_step (k : Nat) (hnest : NestRight k) : Right k := by
  intro n l v m z h hn ht
  rw [value_nestJ] at h
  obtain ⟨c, r, e, hlt, h⟩ := value_inv h hn
  have hs := skip_low l
  have htx := hs.text
  rw [ht, e] at htx
  have hsl := (skip_suf l).length_le
  rw [e] at hsl
  simp only [List.length_cons] at hsl
  rcases h with ⟨hc, h'⟩ | ⟨hc, h', rfl⟩
  · have hc1 : c.toNat < 128 := by rcases hc with rfl | rfl <;> decide
    rw [text_low c r hc1] at htx
    obtain ⟨k1, k2, k3, k4⟩ := hnest c n r v m z hc h' hlt htx.symm
    exact ⟨k1, k2, k3, by omega⟩
  · obtain ⟨kd, t, rfl, k5, k6, hto, hz, hl⟩ := plain_ok h' htx.symm
    refine ⟨?_, by omega, hz, by omega⟩
    unfold mayC
    rw [if_neg (by omega), if_neg k5, if_neg k6, if_pos ⟨rfl, rfl, hto⟩]
theorem nest_right (k : Nat) (hk : k < 64) (hR : Right k) : NestRight (k + 1) := by
  intro c n r v m z hc h hn ht
  replace h : nestG (valueR k) c (n + 1) r = .ok (v, m) z := h
  unfold nestG at h
  split at h
  · obtain ⟨st, hb, e⟩ := map_inv h
    clear h
    cases e
    unfold nestR at hb
    obtain ⟨is, r1, h1, h⟩ := bind_inv hb
    clear hb
    have kt := takes_ok (by decide) h1
    have kf := takes_fine 93 r
    rw [h1] at kf
    replace kf := List.IsSuffix.length_le kf
    have ht1 := kt.text
    rw [ht] at ht1
    have key : (st.keys = [] ∧ mayL st.kids (64 - (k + 1) + 1) (n + 1) = some st.n ∧ st.n ≤ 4096 ∧ Utf.isText z = true ∧ sumT st.kids + 6 * z.length ≤ 6 * r.length) := by
      split at h
      · cases h
        refine ⟨rfl, by unfold mayL; rfl, by show n + 1 ≤ 4096; omega, ht1.symm, ?_⟩
        have : sumT ([] : List J) = 0 := rfl
        rw [this]
        omega
      · refine loop_inv (stepL_fine (value_fine k)) (I := fun st l => st.keys = [] ∧ mayL st.kids (64 - (k + 1) + 1) (n + 1) = some st.n ∧ st.n ≤ 4096 ∧ Utf.isText l = true ∧ sumT st.kids + 6 * l.length ≤ 6 * r.length) ?_ r1 ⟨n + 1, [], []⟩ st z ⟨rfl, by unfold mayL; rfl, by show n + 1 ≤ 4096; omega, ht1.symm, by have : sumT ([] : List J) = 0 := rfl; rw [this]; omega⟩ h
        rintro s l s1 l1 mm l2 ⟨i1, i2, i3, i4, i5⟩ hst hgo
        obtain ⟨p, r2, hv, e⟩ := bind_inv hst
        cases e
        obtain ⟨k1, k2, k3, k4⟩ := hR s.n l p.1 p.2 l1 hv i3 i4
        obtain ⟨g1, g2⟩ := goes_ok (by decide) hgo
        have hg := g1.text
        rw [k3] at hg
        refine ⟨i1, mayL_snoc s.kids p.1 _ _ _ _ i2 (by rw [show 64 - (k + 1) + 1 = 64 - k from by omega]; exact k1), k2, hg.symm, ?_⟩
        rw [sumT_snoc]
        omega
    obtain ⟨q1, q2, q3, q4, q5⟩ := key
    refine ⟨?_, q3, q4, ?_⟩
    · unfold mayC
      rw [if_neg (by omega), if_pos rfl, if_pos ⟨rfl, rfl, by omega⟩]
      exact q2
    · show (91 :: (itemsJ true st.kids ++ [93])).length + _ ≤ _
      have := items_len st.kids true
      simp
      omega
  · obtain ⟨st, hb, e⟩ := map_inv h
    clear h
    cases e
    unfold nestR at hb
    obtain ⟨is, r1, h1, h⟩ := bind_inv hb
    clear hb
    have kt := takes_ok (by decide) h1
    have kf := takes_fine 125 r
    rw [h1] at kf
    replace kf := List.IsSuffix.length_le kf
    have ht1 := kt.text
    rw [ht] at ht1
    have key : (st.keys.length = st.kids.length ∧ keysOK st.keys = true ∧ mayL st.kids (64 - (k + 1) + 1) (n + 1) = some st.n ∧ st.n ≤ 4096 ∧ Utf.isText z = true ∧ sumT st.kids + sumQ st.keys + 6 * z.length ≤ 6 * r.length) := by
      split at h
      · cases h
        refine ⟨rfl, rfl, by unfold mayL; rfl, by show n + 1 ≤ 4096; omega, ht1.symm, ?_⟩
        have e1 : sumT ([] : List J) = 0 := rfl
        have e2 : sumQ [] = 0 := rfl
        rw [e1, e2]
        omega
      · refine loop_inv (stepT_fine (value_fine k)) (I := fun st l => st.keys.length = st.kids.length ∧ keysOK st.keys = true ∧ mayL st.kids (64 - (k + 1) + 1) (n + 1) = some st.n ∧ st.n ≤ 4096 ∧ Utf.isText l = true ∧ sumT st.kids + sumQ st.keys + 6 * l.length ≤ 6 * r.length) ?_ r1 ⟨n + 1, [], []⟩ st z ⟨rfl, rfl, by unfold mayL; rfl, by show n + 1 ≤ 4096; omega, ht1.symm, by have e1 : sumT ([] : List J) = 0 := rfl; have e2 : sumQ [] = 0 := rfl; rw [e1, e2]; omega⟩ h
        rintro s l s1 l1 mm l2 ⟨i0, i1, i2, i3, i4, i5⟩ hst hgo
        obtain ⟨t, r2, hkey, hst⟩ := bind_inv hst
        obtain ⟨is3, r3, hcol, hst⟩ := bind_inv hst
        split at hst
        · obtain ⟨p, r4, hv, e⟩ := bind_inv hst
          cases e
          -- the key
          have hks : ∃ r0, skip l = 34 :: r0 ∧ quotedR r0 = .ok t r2 ∧ t ∉ s.keys := by
            unfold keyR at hkey
            split at hkey
            · cases hkey
            · rename_i c0 r0 e0
              split at hkey
              · rename_i e34
                subst e34
                obtain ⟨t', z', hq, hk2⟩ := bind_inv hkey
                split at hk2
                · cases hk2
                · rename_i hnin
                  cases hk2
                  exact ⟨r0, e0, hq, hnin⟩
              · cases hkey
          obtain ⟨r0, e0, hq, hnin⟩ := hks
          have hsk := (skip_low l).text
          rw [i4, e0, text_low 34 r0 (by decide)] at hsk
          have hsl := (skip_suf l).length_le
          rw [e0] at hsl
          simp only [List.length_cons] at hsl
          obtain ⟨j1, j2, j3⟩ := quoted_ok r0 t r2 hq hsk.symm
          have hc1 := takes_ok (by decide) hcol
          have hc2 := takes_fine 58 r2
          rw [hcol] at hc2
          replace hc2 := List.IsSuffix.length_le hc2
          have hct := hc1.text
          rw [j2] at hct
          obtain ⟨k1, k2, k3, k4⟩ := hR s.n r3 p.1 p.2 l1 hv i3 hct.symm
          obtain ⟨g1, g2⟩ := goes_ok (by decide) hgo
          have hg := g1.text
          rw [k3] at hg
          refine ⟨by simp [i0], ?_, mayL_snoc s.kids p.1 _ _ _ _ i2 (by rw [show 64 - (k + 1) + 1 = 64 - k from by omega]; exact k1), k2, hg.symm, ?_⟩
          · unfold keysOK at i1 ⊢
            rw [Bool.and_eq_true] at i1 ⊢
            refine ⟨?_, ?_⟩
            · show (s.keys ++ [t]).all Utf.isText = true
              rw [List.all_append, i1.1]
              simp [j1]
            · have hnd := of_decide_eq_true i1.2
              refine decide_eq_true ?_
              show (s.keys ++ [t]).Nodup
              rw [List.nodup_append]
              exact ⟨hnd, by simp, fun a ha b hb => by simp at hb; subst hb; exact fun e => hnin (e ▸ ha)⟩
          · show sumT (s.kids ++ [p.1]) + sumQ (s.keys ++ [t]) + _ ≤ _
            rw [sumT_snoc, sumQ_snoc]
            omega
        · cases hst
    obtain ⟨q0, q1, q2, q3, q4, q5⟩ := key
    refine ⟨?_, q3, q4, ?_⟩
    · unfold mayC
      rw [if_neg (by omega), if_neg (by decide), if_pos rfl, if_pos ⟨rfl, q0, by omega⟩, if_pos q1]
      exact q2
    · show (123 :: (pairsJ true st.keys st.kids ++ [125])).length + _ ≤ _
      have := pairs_len st.kids st.keys true q0
      simp
      omega
theorem right_all : ∀ k, k ≤ 64 → Right k
  | 0, _ => right_step 0 fun c n r v m z _ h => by cases h
  | k + 1, hk => right_step (k + 1) (nest_right k (by omega) (right_all k (by omega)))
/-- What is parsed may be, and its text is not much longer. -/
theorem whole_right {l : List UInt8} {v : J} {z : List UInt8} (h : wholeR l = .ok v z) (ht : Utf.isText l = true) : mayJ v = true ∧ (textJ v).length ≤ 6 * l.length := by
  obtain ⟨p, r, h1, h2⟩ := bind_inv h
  split at h2
  · cases h2
    obtain ⟨k1, _, _, k4⟩ := right_all 64 (by omega) 0 l p.1 p.2 r h1 (by omega) ht
    refine ⟨?_, by omega⟩
    unfold mayJ
    rw [show mayC p.1 0 0 = some p.2 from k1]
    rfl
  · cases h2
end Jsn
/- JSON values: how large they are. -/
set_option linter.unusedVariables false
namespace Jsn
open Asc
def lenK (ks : List (List UInt8)) : Nat := (ks.map List.length).sum
mutual
/-- How large a value is. -/
def sizeJ : J → Nat
  | .mk k t ks cs => 1 + t.length + cs.length + ks.length + lenK ks + sizeL cs
def sizeL : List J → Nat
  | [] => 0
  | c :: cs => sizeJ c + sizeL cs
end
theorem sizeL_nil : sizeL [] = 0 := by rw [sizeL]
theorem sizeL_cons (c : J) (cs : List J) : sizeL (c :: cs) = sizeJ c + sizeL cs := by rw [sizeL]
theorem sizeJ_mk (k : Int) (t : List UInt8) (ks : List (List UInt8)) (cs : List J) : sizeJ (.mk k t ks cs) = 1 + t.length + cs.length + ks.length + lenK ks + sizeL cs := by rw [sizeJ]
theorem sizeL_mem : ∀ {cs : List J} {c : J}, c ∈ cs → sizeJ c ≤ sizeL cs
  | c :: cs, d, h => by
    rw [sizeL_cons]
    rcases List.mem_cons.1 h with rfl | h
    · omega
    · have := sizeL_mem h
      omega
theorem lenK_mem : ∀ {ks : List (List UInt8)} {k : List UInt8}, k ∈ ks → k.length ≤ lenK ks
  | x :: ks, k, h => by
    have e : lenK (x :: ks) = x.length + lenK ks := by simp [lenK]
    rw [e]
    rcases List.mem_cons.1 h with rfl | h
    · omega
    · have := lenK_mem h
      omega
theorem esc_pos (c : UInt8) : 1 ≤ (escB c).length := by revert c; apply byte_all; decide +kernel
theorem escLen_ge : ∀ t : List UInt8, t.length ≤ escLen t
  | [] => Nat.le_refl _
  | c :: t => by
    have := escLen_ge t
    have h1 := esc_pos c
    unfold escLen at this ⊢
    rw [List.flatMap_cons, List.length_append, List.length_cons]
    omega
theorem escLen_le : ∀ t : List UInt8, escLen t ≤ 6 * t.length
  | [] => Nat.le_refl _
  | c :: t => by
    have := escLen_le t
    have := escLen_cons c t
    rw [List.length_cons]
    omega
theorem quote_len (t : List UInt8) : (quoteJ t).length = escLen t + 2 := by unfold quoteJ escLen; simp
theorem textJ_mk (k : Int) (t : List UInt8) (ks : List (List UInt8)) (cs : List J) : textJ (.mk k t ks cs) = if k = 1 then nullT else if k = 4 then quoteJ t else if k = 5 then 91 :: (itemsJ true cs ++ [93]) else if k = 6 then 123 :: (pairsJ true ks cs ++ [125]) else t := by rw [textJ]
theorem items_cons (b : Bool) (c : J) (cs : List J) : itemsJ b (c :: cs) = (if b = true then [] else [44]) ++ (textJ c ++ itemsJ false cs) := by rw [itemsJ]
theorem pairs_cons (b : Bool) (k : List UInt8) (ks : List (List UInt8)) (c : J) (cs : List J) : pairsJ b (k :: ks) (c :: cs) = (if b = true then [] else [44]) ++ (quoteJ k ++ (58 :: (textJ c ++ pairsJ false ks cs))) := by rw [pairsJ]; rfl
/-- A value that may be is not much larger than its text, and its text not much longer than it is large. -/
def Sized (v : J) : Prop := ∀ d n m, mayC v d n = some m → sizeJ v ≤ 3 * (textJ v).length ∧ (textJ v).length ≤ 6 * sizeJ v
theorem items_sized : ∀ (cs : List J) (d n m : Nat) (b : Bool), (∀ c ∈ cs, Sized c) → mayL cs d n = some m → sizeL cs + cs.length ≤ 3 * (itemsJ b cs).length + 2 ∧ (itemsJ b cs).length ≤ 6 * sizeL cs + cs.length ∧ (b = false → sizeL cs + cs.length ≤ 3 * (itemsJ b cs).length)
  | [], d, n, m, b, _, _ => by rw [items_nil, sizeL_nil]; simp
  | c :: cs, d, n, m, b, hs, hm => by
    unfold mayL at hm
    cases h1 : mayC c d n with
    | none => rw [h1] at hm; cases hm
    | some q =>
      rw [h1] at hm
      obtain ⟨k1, k2⟩ := hs c (List.mem_cons_self ..) d n q h1
      obtain ⟨j1, j2, j3⟩ := items_sized cs d q m false (fun x hx => hs x (List.mem_cons_of_mem _ hx)) hm
      have j4 := j3 rfl
      rw [items_cons, sizeL_cons]
      cases b <;> simp <;> omega
theorem pairs_sized : ∀ (cs : List J) (ks : List (List UInt8)) (d n m : Nat) (b : Bool), (∀ c ∈ cs, Sized c) → ks.length = cs.length → mayL cs d n = some m → sizeL cs + cs.length + ks.length + lenK ks ≤ 3 * (pairsJ b ks cs).length + 2 ∧ (pairsJ b ks cs).length ≤ 6 * sizeL cs + 6 * lenK ks + 4 * ks.length ∧ (b = false → sizeL cs + cs.length + ks.length + lenK ks ≤ 3 * (pairsJ b ks cs).length)
  | [], ks, d, n, m, b, _, hl, _ => by
    have : ks = [] := List.eq_nil_of_length_eq_zero hl
    subst this
    rw [pairs_nil, sizeL_nil]
    simp [lenK]
  | c :: cs, [], d, n, m, b, _, hl, _ => by simp at hl
  | c :: cs, k :: ks, d, n, m, b, hs, hl, hm => by
    unfold mayL at hm
    cases h1 : mayC c d n with
    | none => rw [h1] at hm; cases hm
    | some q =>
      rw [h1] at hm
      obtain ⟨k1, k2⟩ := hs c (List.mem_cons_self ..) d n q h1
      obtain ⟨j1, j2, j3⟩ := pairs_sized cs ks d q m false (fun x hx => hs x (List.mem_cons_of_mem _ hx)) (by simpa using hl) hm
      have j4 := j3 rfl
      have e1 := escLen_ge k
      have e2 := escLen_le k
      have e3 := quote_len k
      have e4 : lenK (k :: ks) = k.length + lenK ks := by simp [lenK]
      rw [pairs_cons, sizeL_cons, e4]
      cases b <;> simp [e3] <;> omega
theorem sized_all : ∀ v, Sized v := by
  intro v
  induction v using J.ind with
  | h k t ks cs ih =>
    intro d n m hm
    rw [sizeJ_mk, textJ_mk]
    unfold mayC at hm
    split at hm
    · cases hm
    split at hm
    · rename_i h5
      subst h5
      split at hm
      · rename_i hc
        obtain ⟨rfl, rfl, _⟩ := hc
        obtain ⟨j1, j2, _⟩ := items_sized cs (d + 1) (n + 1) m true ih hm
        have : lenK [] = 0 := rfl
        simp [this]
        omega
      · cases hm
    rename_i h5
    split at hm
    · rename_i h6
      subst h6
      split at hm
      · rename_i hc
        obtain ⟨rfl, hl, _⟩ := hc
        split at hm
        · obtain ⟨j1, j2, _⟩ := pairs_sized cs ks (d + 1) (n + 1) m true ih hl hm
          simp
          omega
        · cases hm
      · cases hm
    rename_i h6
    split at hm
    · rename_i hc
      obtain ⟨rfl, rfl, ht⟩ := hc
      have e0 : lenK [] = 0 := rfl
      rw [e0, sizeL_nil, if_neg h5, if_neg h6]
      unfold textOf at ht
      split at ht
      · rename_i h1
        subst h1
        have : t = [] := by simpa using ht
        subst this
        have : nullT.length = 4 := rfl
        simp [this]
      rename_i h1
      rw [if_neg h1]
      split at ht
      · rename_i h2
        subst h2
        rcases of_decide_eq_true ht with rfl | rfl <;> decide
      split at ht
      · rename_i h3
        subst h3
        obtain ⟨c, r, e, _⟩ := num_head ht
        subst e
        rw [if_neg (by decide)]
        simp
        omega
      split at ht
      · rename_i h4
        subst h4
        rw [if_pos rfl, quote_len]
        have e1 := escLen_ge t
        have e2 := escLen_le t
        simp
        omega
      · cases ht
    · cases hm
theorem may_sized {v : J} (h : mayJ v = true) : sizeJ v ≤ 3 * (textJ v).length ∧ (textJ v).length ≤ 6 * sizeJ v := by
  unfold mayJ at h
  obtain ⟨m, hm⟩ := Option.isSome_iff_exists.1 h
  exact sized_all v 0 0 m hm
end Jsn
/- JSON texts: the text of a value that may be is a text. -/
set_option linter.unusedVariables false
namespace Jsn
open Asc
open Go.Lib (encodeRune)
/-- A text in two: its first sign, and what is behind it. -/
theorem text_split {c : UInt8} {r : List UInt8} (ht : Utf.isText (c :: r) = true) (hc : ¬ c.toNat < 128) :
    ∃ K x, 1 ≤ K ∧ K ≤ r.length + 1 ∧ encodeRune x = (c :: r).take K ∧ (∀ d ∈ (c :: r).take K, 128 ≤ d.toNat) ∧ Utf.isText ((c :: r).drop K) = true := by
  have hg := Utf.isText_go (c :: r) (List.cons_ne_nil _ _)
  rw [ht] at hg
  have hg2 := Bool.and_eq_true_iff.1 hg.symm
  obtain ⟨hr, he⟩ := Utf.whole (c :: r) (List.cons_ne_nil _ _) hg2.1
  have hk1 := Utf.part_pos (c :: r)
  have hk2 := Utf.part_len (c :: r) (List.cons_ne_nil _ _)
  generalize hK : (Utf.part (c :: r)).1 = K at *
  refine ⟨K, _, hk1, by simpa using hk2, he, ?_, hg2.2⟩
  intro d hd
  obtain ⟨j, hj, rfl⟩ := List.mem_iff_getElem.1 hd
  rw [List.length_take] at hj
  rw [List.getElem_take]
  by_cases hj0 : j = 0
  · subst hj0
    show 128 ≤ c.toNat
    omega
  · have := (Utf.part_cont (c :: r) j (by omega) (by rw [hK]; omega)).1
    unfold Utf.at' at this
    rw [List.getD_eq_getElem?_getD, List.getElem?_eq_getElem (by omega)] at this
    exact this
theorem esc_low (c : UInt8) : c.toNat < 128 → ∀ d ∈ escB c, d.toNat < 128 := by revert c; apply byte_all; decide +kernel
theorem esc_self (c : UInt8) : 128 ≤ c.toNat → escB c = [c] := by revert c; apply byte_all; decide +kernel
theorem flat_self : ∀ l : List UInt8, (∀ d ∈ l, 128 ≤ d.toNat) → l.flatMap escB = l
  | [], _ => rfl
  | c :: l, h => by
    rw [List.flatMap_cons, esc_self c (h c (by simp)), flat_self l (fun d hd => h d (by simp [hd]))]
    rfl
theorem app_text (a b : List UInt8) : Utf.isText a = true → Utf.isText (a ++ b) = Utf.isText b := by
  generalize hn : a.length = n
  induction n using Nat.strongRecOn generalizing a with
  | ind n ih =>
    intro ht
    cases a with
    | nil => rfl
    | cons c r =>
      by_cases hc : c.toNat < 128
      · rw [text_low c r hc] at ht
        rw [List.cons_append, text_low c _ hc]
        exact ih r.length (by simp at hn; omega) r rfl ht
      · obtain ⟨K, x, k1, k2, he, _, hd⟩ := text_split ht hc
        have hs : (c :: r) ++ b = encodeRune x ++ ((c :: r).drop K ++ b) := by rw [he, ← List.append_assoc, List.take_append_drop]
        rw [hs, Utf.isText_put]
        exact ih ((c :: r).drop K).length (by rw [List.length_drop]; simp at hn ⊢; omega) _ rfl hd
theorem flat_text (a b : List UInt8) : Utf.isText a = true → Utf.isText (a.flatMap escB ++ b) = Utf.isText b := by
  generalize hn : a.length = n
  induction n using Nat.strongRecOn generalizing a with
  | ind n ih =>
    intro ht
    cases a with
    | nil => rfl
    | cons c r =>
      by_cases hc : c.toNat < 128
      · rw [text_low c r hc] at ht
        rw [List.flatMap_cons, List.append_assoc]
        have hl : Low (escB c ++ (r.flatMap escB ++ b)) (r.flatMap escB ++ b) := ⟨escB c, rfl, esc_low c hc⟩
        rw [hl.text]
        exact ih r.length (by simp at hn; omega) r rfl ht
      · obtain ⟨K, x, k1, k2, he, hh, hd⟩ := text_split ht hc
        have hs : (c :: r).flatMap escB ++ b = encodeRune x ++ (((c :: r).drop K).flatMap escB ++ b) := by
          rw [he, ← List.append_assoc]
          congr 1
          conv => lhs; rw [← List.take_append_drop K (c :: r), List.flatMap_append, flat_self _ hh]
        rw [hs, Utf.isText_put]
        exact ih ((c :: r).drop K).length (by rw [List.length_drop]; simp at hn ⊢; omega) _ rfl hd
theorem quote_text (s b : List UInt8) (h : Utf.isText s = true) : Utf.isText (quoteJ s ++ b) = Utf.isText b := by
  unfold quoteJ
  rw [List.cons_append, text_low _ _ (by decide), List.append_assoc, flat_text s _ h]
  exact text_low _ _ (by decide)
theorem low_text (a b : List UInt8) (h : ∀ d ∈ a, d.toNat < 128) : Utf.isText (a ++ b) = Utf.isText b := Low.text ⟨a, rfl, h⟩
/-- The text of a value that may be, ahead of whatever. -/
def Txt (v : J) : Prop := ∀ d n m, mayC v d n = some m → ∀ b, Utf.isText (textJ v ++ b) = Utf.isText b
theorem items_txt : ∀ (cs : List J) (f : Bool) (d n m : Nat) (b : List UInt8), (∀ c ∈ cs, Txt c) → mayL cs d n = some m → Utf.isText (itemsJ f cs ++ b) = Utf.isText b
  | [], f, d, n, m, b, _, _ => by cases f <;> (unfold itemsJ; rfl)
  | c :: cs, f, d, n, m, b, ih, h => by
    unfold mayL at h
    cases hc : mayC c d n with
    | none => rw [hc] at h; cases h
    | some q =>
      rw [hc] at h
      rw [items_cons, List.append_assoc, low_text _ _ (by intro x hx; split at hx <;> simp at hx; subst hx; decide), List.append_assoc, ih c (by simp) d n q hc]
      exact items_txt cs false d q m b (fun x hx => ih x (by simp [hx])) h
theorem pairs_txt : ∀ (ks : List (List UInt8)) (cs : List J) (f : Bool) (d n m : Nat) (b : List UInt8), (∀ k ∈ ks, Utf.isText k = true) → ks.length = cs.length → (∀ c ∈ cs, Txt c) → mayL cs d n = some m → Utf.isText (pairsJ f ks cs ++ b) = Utf.isText b
  | [], [], f, d, n, m, b, _, _, _, _ => by cases f <;> (unfold pairsJ; rfl)
  | [], _ :: _, _, _, _, _, _, _, h, _, _ => by simp at h
  | _ :: _, [], _, _, _, _, _, _, h, _, _ => by simp at h
  | k :: ks, c :: cs, f, d, n, m, b, hk, hl, ih, h => by
    unfold mayL at h
    cases hc : mayC c d n with
    | none => rw [hc] at h; cases h
    | some q =>
      rw [hc] at h
      rw [pairs_cons, List.append_assoc, low_text _ _ (by intro x hx; split at hx <;> simp at hx; subst hx; decide), List.append_assoc, quote_text k _ (hk k (by simp)), List.cons_append, text_low _ _ (by decide), List.append_assoc, ih c (by simp) d n q hc]
      exact pairs_txt ks cs false d q m b (fun x hx => hk x (by simp [hx])) (by simpa using hl) (fun x hx => ih x (by simp [hx])) h
theorem plain_low {k : Int} {t : List UInt8} (h : textOf k t = true) (h4 : k ≠ 4) : ∀ d ∈ t, d.toNat < 128 := by
  unfold textOf at h
  split at h
  · cases t with
    | nil => intro d hd; cases hd
    | cons _ _ => cases h
  · split at h
    · rcases of_decide_eq_true h with rfl | rfl <;> decide
    · split at h
      · intro d hd
        exact shape_low h d hd
      · first | (rw [if_neg h4] at h; cases h) | cases h
theorem text_all : ∀ v, Txt v := by
  intro v
  induction v using J.ind with
  | h k t ks cs ih =>
    intro d n m hm b
    rw [textJ_mk]
    unfold mayC at hm
    split at hm
    · cases hm
    · by_cases h5 : k = 5
      · subst h5
        rw [if_pos rfl] at hm
        split at hm
        · rw [if_neg (by decide), if_neg (by decide), if_pos rfl, List.cons_append, text_low _ _ (by decide), List.append_assoc, items_txt cs true _ _ _ _ ih hm]
          exact text_low _ _ (by decide)
        · cases hm
      rw [if_neg h5] at hm
      by_cases h6 : k = 6
      · subst h6
        rw [if_pos rfl] at hm
        split at hm
        · rename_i hc
          split at hm
          · rename_i hok
            unfold keysOK at hok
            rw [Bool.and_eq_true] at hok
            rw [if_neg (by decide), if_neg (by decide), if_neg (by decide), if_pos rfl, List.cons_append, text_low _ _ (by decide), List.append_assoc, pairs_txt ks cs true _ _ _ _ (List.all_eq_true.1 hok.1) hc.2.1 ih hm]
            exact text_low _ _ (by decide)
          · cases hm
        · cases hm
      rw [if_neg h6] at hm
      split at hm
      · rename_i hc
        by_cases h1 : k = 1
        · rw [if_pos h1]
          exact low_text _ _ (by decide)
        · rw [if_neg h1]
          by_cases h4 : k = 4
          · rw [if_pos h4]
            subst h4
            have := hc.2.2
            unfold textOf at this
            rw [if_neg (by decide), if_neg (by decide), if_neg (by decide), if_pos rfl] at this
            exact quote_text t b this
          · rw [if_neg h4, if_neg h5, if_neg h6]
            exact low_text _ _ (plain_low hc.2.2 h4)
      · cases hm
theorem text_text {v : J} (h : mayJ v = true) : Utf.isText (textJ v) = true := by
  unfold mayJ at h
  obtain ⟨m, hm⟩ := Option.isSome_iff_exists.1 h
  have := text_all v 0 0 m hm []
  rw [List.append_nil] at this
  rw [this]
  exact Utf.isText_nil
end Jsn
/- Plain mathematics of package json: the document's own ways to tell a number, to quote a text and to write a value, against ours. -/
set_option linter.unusedVariables false
namespace Jsn
/-- How many digits a text begins with. -/
def cnt (l : List UInt8) : Nat := l.length - (digs l).length
theorem cnt_nil : cnt [] = 0 := rfl
theorem cnt_yes {c : UInt8} {l : List UInt8} (h : dgB c = true) : cnt (c :: l) = cnt l + 1 := by
  unfold cnt digs
  rw [List.dropWhile_cons_of_pos h]
  have := digs_le l
  unfold digs at this
  simp
  omega
theorem cnt_no {c : UInt8} {l : List UInt8} (h : dgB c = false) : cnt (c :: l) = 0 := by
  unfold cnt digs
  rw [List.dropWhile_cons_of_neg (by simp [h])]
  simp
theorem cnt_le (l : List UInt8) : cnt l ≤ l.length := by unfold cnt; omega
theorem drop_cnt : ∀ l : List UInt8, l.drop (cnt l) = digs l
  | [] => rfl
  | c :: l => by
    cases h : dgB c
    · rw [cnt_no h]
      unfold digs
      rw [List.dropWhile_cons_of_neg (by simp [h])]
      rfl
    · rw [cnt_yes h, List.drop_succ_cons, drop_cnt l]
      unfold digs
      rw [List.dropWhile_cons_of_pos h]
theorem digR_cnt (l : List UInt8) : digR l = (digs l, decide (0 < cnt l)) := by
  unfold digR cnt
  have := digs_le l
  congr 1
  by_cases h : (digs l).length < l.length
  · rw [decide_eq_true h, decide_eq_true (by omega)]
  · rw [decide_eq_false h, decide_eq_false (by omega)]
/-- The end of a number, as the document tells it. -/
def expD (l : List UInt8) : Bool := if l = [] then true else if starts isExp l = true then (let r := cutIf isSgn l.tail; decide (r ≠ []) && decide (cnt r = r.length)) else false
def fracD (l : List UInt8) : Bool := if starts isDot l = true then (if cnt l.tail = 0 then false else expD (digs l.tail)) else expD l
def intD (l : List UInt8) : Bool := if cnt l = 0 ∨ (1 < cnt l ∧ starts isNul l = true) then false else fracD (digs l)
def numD (l : List UInt8) : Bool := intD (cutIf isMin l)
theorem exp_eq (l : List UInt8) : expD l = decide (expR (l, true) = ([], true)) := by
  unfold expD expR
  simp only [true_and]
  by_cases h0 : l = []
  · subst h0; simp [starts]
  · rw [if_neg h0]
    by_cases h1 : starts isExp l = true
    · rw [if_pos h1, if_pos h1, digR_cnt]
      have h2 := digs_le (cutIf isSgn l.tail)
      have h3 : (cnt (cutIf isSgn l.tail) = (cutIf isSgn l.tail).length) ↔ digs (cutIf isSgn l.tail) = [] := by
        unfold cnt
        constructor
        · intro h
          apply List.eq_nil_of_length_eq_zero
          by_cases hz : (cutIf isSgn l.tail).length = 0
          · omega
          · omega
        · intro h; rw [h]; simp
      have h4 : (cutIf isSgn l.tail ≠ [] ∧ cnt (cutIf isSgn l.tail) = (cutIf isSgn l.tail).length) ↔ (digs (cutIf isSgn l.tail) = [] ∧ decide (0 < cnt (cutIf isSgn l.tail)) = true) := by
        rw [h3]
        constructor
        · rintro ⟨ha, hb⟩
          refine ⟨hb, decide_eq_true ?_⟩
          unfold cnt
          rw [hb]
          have : 0 < (cutIf isSgn l.tail).length := List.length_pos_iff.2 ha
          simp; omega
        · rintro ⟨ha, hb⟩
          have hb := of_decide_eq_true hb
          refine ⟨fun he => ?_, ha⟩
          rw [he] at hb
          simp [cnt] at hb
      simp only [Prod.mk.injEq]
      rw [← Bool.decide_and]
      exact decide_eq_decide.2 h4
    · rw [if_neg h1, if_neg h1]
      simp [h0]
theorem expR_false (l : List UInt8) : expR (l, false) = (l, false) := by unfold expR; simp
theorem frac_eq (l : List UInt8) : fracD l = decide (expR (fracR (l, true)) = ([], true)) := by
  unfold fracD fracR
  simp only [true_and]
  by_cases h1 : starts isDot l = true
  · rw [if_pos h1, if_pos h1, digR_cnt]
    by_cases h2 : cnt l.tail = 0
    · rw [if_pos h2, decide_eq_false (show ¬ 0 < cnt l.tail by omega), expR_false]
      simp
    · rw [if_neg h2, decide_eq_true (show 0 < cnt l.tail by omega), exp_eq]
  · rw [if_neg h1, if_neg h1, exp_eq]
theorem fracR_false (l : List UInt8) : fracR (l, false) = (l, false) := by unfold fracR; simp
theorem nul_dg (c : UInt8) : isNul c = true → dgB c = true := by revert c; apply byte_all; decide +kernel
theorem num_eq (l : List UInt8) : numD l = isNum l := by
  unfold numD isNum numR intD intR
  generalize cutIf isMin l = s
  by_cases hn : starts isNul s = true
  · rw [if_pos hn]
    obtain ⟨c, r, rfl⟩ : ∃ c r, s = c :: r := by
      cases s with
      | nil => simp [starts] at hn
      | cons c r => exact ⟨c, r, rfl⟩
    have hc : dgB c = true := nul_dg c hn
    by_cases h1 : cnt r = 0
    · rw [if_neg (by rw [cnt_yes hc]; omega)]
      have : digs (c :: r) = r := by
        rw [← drop_cnt, cnt_yes hc, h1]; rfl
      rw [this, frac_eq]
      rfl
    · rw [if_pos (by rw [cnt_yes hc]; exact .inr ⟨by omega, hn⟩)]
      obtain ⟨e, q, rfl⟩ : ∃ e q, r = e :: q := by
        cases r with
        | nil => exact absurd rfl h1
        | cons e q => exact ⟨e, q, rfl⟩
      have he : dgB e = true := by
        cases he : dgB e
        · exact absurd (cnt_no he) h1
        · rfl
      obtain ⟨_, _, hd, hx, _⟩ := dg_sgn e he
      have f1 : fracR (e :: q, true) = (e :: q, true) := by unfold fracR; simp [starts, hd]
      have f2 : expR (e :: q, true) = (e :: q, true) := by unfold expR; simp [starts, hx]
      show false = decide (expR (fracR (e :: q, true)) = ([], true))
      rw [f1, f2]
      simp
  · rw [if_neg hn, digR_cnt]
    by_cases h1 : cnt s = 0
    · rw [if_pos (.inl h1), decide_eq_false (show ¬ 0 < cnt s by omega), fracR_false, expR_false]
      simp
    · rw [if_neg (by rintro (h | h); exact h1 h; exact hn h.2), decide_eq_true (show 0 < cnt s by omega), frac_eq]
/-- Where a byte stands among those that are written by a letter. -/
def escP (c : UInt8) : Nat := [8, 9, 10, 12, 13, 34, 92].findIdx (· == c)
def escT : List UInt8 := [98, 116, 110, 102, 114, 34, 92]
theorem esc_eq (c : UInt8) : escB c = if escP c < 7 then [92, escT.getD (escP c) 0] else if c < 32 ∨ c = 127 then [92, 117, 48, 48, hexC (c.toNat / 16), hexC (c.toNat % 16)] else [c] := by
  revert c; apply byte_all; decide +kernel
mutual
/-- A value's text, as the document tells it, whatever the value. -/
def textD : J → List UInt8
  | .mk k t ks cs => if k = 1 then nullT else if k = 4 then quoteJ t else if k = 5 then 91 :: (itemsD false true ks cs ++ [93]) else if k = 6 then 123 :: (itemsD true true ks cs ++ [125]) else t
def itemsD : Bool → Bool → List (List UInt8) → List J → List UInt8
  | _, _, _, [] => []
  | tab, b, ks, c :: cs => (if b = true then [] else [44]) ++ ((if tab = true ∧ ks ≠ [] then quoteJ (ks.headD []) ++ [58] else []) ++ (textD c ++ itemsD tab false ks.tail cs))
end
theorem textD_mk (k : Int) (t : List UInt8) (ks : List (List UInt8)) (cs : List J) : textD (.mk k t ks cs) = if k = 1 then nullT else if k = 4 then quoteJ t else if k = 5 then 91 :: (itemsD false true ks cs ++ [93]) else if k = 6 then 123 :: (itemsD true true ks cs ++ [125]) else t := by rw [textD]
theorem itemsD_nil (tab b : Bool) (ks : List (List UInt8)) : itemsD tab b ks [] = [] := by rw [itemsD]
theorem itemsD_cons (tab b : Bool) (ks : List (List UInt8)) (c : J) (cs : List J) : itemsD tab b ks (c :: cs) = (if b = true then [] else [44]) ++ ((if tab = true ∧ ks ≠ [] then quoteJ (ks.headD []) ++ [58] else []) ++ (textD c ++ itemsD tab false ks.tail cs)) := by rw [itemsD]
theorem quote_le (t : List UInt8) : (quoteJ t).length ≤ 6 * t.length + 2 := by
  rw [quote_len]
  have := escLen_le t
  omega
theorem lenK_cons (k : List UInt8) (ks : List (List UInt8)) : lenK (k :: ks) = k.length + lenK ks := by simp [lenK]
theorem itemsD_le : ∀ (cs : List J) (tab b : Bool) (ks : List (List UInt8)), (∀ c ∈ cs, (textD c).length ≤ 10 * sizeJ c) → (itemsD tab b ks cs).length ≤ 10 * sizeL cs + cs.length + 6 * lenK ks + 3 * ks.length
  | [], tab, b, ks, _ => by rw [itemsD_nil]; simp
  | c :: cs, tab, b, ks, h => by
    have h1 := h c (List.mem_cons_self ..)
    have h2 := itemsD_le cs tab false ks.tail (fun d hd => h d (List.mem_cons_of_mem _ hd))
    rw [itemsD_cons, sizeL_cons, List.length_append, List.length_append, List.length_append, List.length_cons]
    have h3 : (if b = true then ([] : List UInt8) else [44]).length ≤ 1 := by split <;> simp
    cases ks with
    | nil =>
      have h4 : (if tab = true ∧ ([] : List (List UInt8)) ≠ [] then quoteJ (([] : List (List UInt8)).headD []) ++ [58] else []).length = 0 := by simp
      rw [h4]
      simp only [List.tail_nil] at h2 ⊢
      omega
    | cons k ks =>
      have h4 : (if tab = true ∧ k :: ks ≠ [] then quoteJ ((k :: ks).headD []) ++ [58] else []).length ≤ 6 * k.length + 3 := by
        split
        · have := quote_le k
          simp
          omega
        · simp
      rw [lenK_cons, List.length_cons]
      simp only [List.tail_cons] at h2 ⊢
      omega
theorem textD_le : ∀ v : J, (textD v).length ≤ 10 * sizeJ v := by
  intro v
  induction v using J.ind with
  | h k t ks cs ih =>
    rw [textD_mk, sizeJ_mk]
    have h5 := itemsD_le cs false true ks ih
    have h6 := itemsD_le cs true true ks ih
    have hq := quote_le t
    split
    · simp [nullT]; omega
    · split
      · omega
      · split
        · simp; omega
        · split
          · simp; omega
          · omega
theorem items_same : ∀ (cs : List J) (b : Bool) (d n m : Nat), (∀ c ∈ cs, ∀ d n m, mayC c d n = some m → textD c = textJ c) → mayL cs d n = some m → itemsD false b [] cs = itemsJ b cs
  | [], b, d, n, m, _, _ => by rw [itemsD_nil, items_nil]
  | c :: cs, b, d, n, m, h, hm => by
    rw [mayL] at hm
    split at hm
    · cases hm
    · rename_i p hp
      rw [itemsD_cons, items_cons, h c (List.mem_cons_self ..) _ _ _ hp, show ([] : List (List UInt8)).tail = [] from rfl, items_same cs false d p m (fun e he => h e (List.mem_cons_of_mem _ he)) hm]
      simp
theorem pairs_same : ∀ (cs : List J) (ks : List (List UInt8)) (b : Bool) (d n m : Nat), (∀ c ∈ cs, ∀ d n m, mayC c d n = some m → textD c = textJ c) → ks.length = cs.length → mayL cs d n = some m → itemsD true b ks cs = pairsJ b ks cs
  | [], ks, b, d, n, m, _, _, _ => by rw [itemsD_nil, pairs_nil]
  | c :: cs, ks, b, d, n, m, h, hl, hm => by
    rw [mayL] at hm
    split at hm
    · cases hm
    · rename_i p hp
      cases ks with
      | nil => simp at hl
      | cons k ks =>
        rw [itemsD_cons, pairs_cons, h c (List.mem_cons_self ..) _ _ _ hp, show (k :: ks).tail = ks from rfl, pairs_same cs ks false d p m (fun e he => h e (List.mem_cons_of_mem _ he)) (by simpa using hl) hm]
        simp
theorem textD_may : ∀ (v : J) (d n m : Nat), mayC v d n = some m → textD v = textJ v := by
  intro v
  induction v using J.ind with
  | h k t ks cs ih =>
    intro d n m hm
    rw [textD_mk, textJ_mk]
    rw [mayC] at hm
    split at hm
    · cases hm
    · split at hm
      · rename_i h5
        subst h5
        split at hm
        · rename_i h
          obtain ⟨_, rfl, _⟩ := h
          rw [items_same cs true (d + 1) (n + 1) m ih hm]
          simp
        · cases hm
      · rename_i h5
        split at hm
        · rename_i h6
          subst h6
          split at hm
          · rename_i h
            split at hm
            · rw [pairs_same cs ks true (d + 1) (n + 1) m ih h.2.1 hm]
              simp
            · cases hm
          · cases hm
        · rename_i h6
          rw [if_neg h5, if_neg h6, if_neg h5, if_neg h6]
theorem textD_eq (v : J) (h : mayJ v = true) : textD v = textJ v := by
  unfold mayJ at h
  obtain ⟨m, hm⟩ := Option.isSome_iff_exists.1 h
  exact textD_may v 0 0 m hm
end Jsn
