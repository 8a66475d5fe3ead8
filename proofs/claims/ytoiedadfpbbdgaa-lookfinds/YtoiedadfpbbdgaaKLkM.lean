/- Texts laid as one. -/
import Derived.Test.YtoiedadfpbbdgaaKTreM
/- A tree's text is no longer than what its nodes add to it, each once. -/
set_option linter.unusedVariables false
namespace Tre
def sumTo (f : Nat → Nat) : Nat → Nat
  | 0 => 0
  | n + 1 => sumTo f n + f n
theorem sumTo_congr {f g : Nat → Nat} : ∀ n, (∀ i, i < n → f i = g i) → sumTo f n = sumTo g n
  | 0, _ => rfl
  | n + 1, h => by rw [sumTo, sumTo, sumTo_congr n (fun i hi => h i (by omega)), h n (by omega)]
theorem sumTo_le {f g : Nat → Nat} : ∀ n, (∀ i, i < n → f i ≤ g i) → sumTo f n ≤ sumTo g n
  | 0, _ => Nat.le_refl _
  | n + 1, h => by
    rw [sumTo, sumTo]
    have := sumTo_le n (fun i hi => h i (by omega))
    have := h n (by omega)
    omega
theorem sumTo_add (f g : Nat → Nat) : ∀ n, sumTo (fun i => f i + g i) n = sumTo f n + sumTo g n
  | 0 => rfl
  | n + 1 => by
    rw [sumTo, sumTo, sumTo, sumTo_add f g n]
    omega
theorem sumTo_const (c : Nat) : ∀ n, sumTo (fun _ => c) n = n * c
  | 0 => by simp [sumTo]
  | n + 1 => by rw [sumTo, sumTo_const c n, Nat.succ_mul]
theorem sumTo_none {f : Nat → Nat} : ∀ n, (∀ i, i < n → f i = 0) → sumTo f n = 0
  | 0, _ => rfl
  | n + 1, h => by rw [sumTo, sumTo_none n (fun i hi => h i (by omega)), h n (by omega)]
theorem sumTo_one (x : Int) (c : Nat) : ∀ n : Nat, 0 ≤ x → x < (n : Int) → sumTo (fun i => if x = (i : Int) then c else 0) n = c
  | 0, h, h2 => by omega
  | n + 1, h, h2 => by
    rw [sumTo]
    by_cases e : x = (n : Int)
    · rw [if_pos e, sumTo_none n (fun i hi => if_neg (by omega)), Nat.zero_add]
    · rw [if_neg e, sumTo_one x c n h (by omega)]
      omega
theorem kids_sum {ns : List Nd} (f : Nat → Nat) (N : Nat) (h0 : (ndAt ns 0).up < 0) : ∀ m, (∀ j, j < m → j ≠ 0 → 0 ≤ (ndAt ns j).up ∧ (ndAt ns j).up < (N : Int)) →
    sumTo (fun u => ((kidsTo ns u m).map fun k => f k.toNat).sum) N = sumTo (fun j => if j = 0 then 0 else f j) m
  | 0, _ => sumTo_none N (fun i _ => by simp [kidsTo])
  | m + 1, h => by
    have ih := kids_sum f N h0 m (fun j hj => h j (by omega))
    have e : sumTo (fun u => ((kidsTo ns u (m + 1)).map fun k => f k.toNat).sum) N = sumTo (fun u => ((kidsTo ns u m).map fun k => f k.toNat).sum + (if (ndAt ns m).up = (u : Int) then f m else 0)) N := by
      refine sumTo_congr N (fun u hu => ?_)
      rw [kidsTo, List.map_append, List.sum_append]
      congr 1
      split <;> simp
    rw [e, sumTo_add, ih, sumTo]
    congr 1
    by_cases hm : m = 0
    · rw [if_pos hm]
      subst hm
      exact sumTo_none N (fun i _ => if_neg (by omega))
    · rw [if_neg hm]
      have := h m (by omega) hm
      exact sumTo_one _ _ N this.1 this.2
theorem kidsTo_has {ns : List Nd} {u j : Nat} (hu : (ndAt ns j).up = (u : Int)) : ∀ n, j < n → (j : Int) ∈ kidsTo ns u n
  | 0, h => by omega
  | n + 1, h => by
    rw [kidsTo, List.mem_append]
    by_cases e : j = n
    · subst e
      rw [if_pos hu]
      exact .inr (List.mem_cons_self ..)
    · exact .inl (kidsTo_has hu n (by omega))
/-- What a node adds by itself. -/
def own (ns : List Nd) (i : Nat) : Nat := if (ndAt ns i).kind = 3 then (if rawB ns (ndAt ns i) = true then (ndAt ns i).text.length else (Rf.enc false (ndAt ns i).text).length) else (Tk.tagText (startTok (ndAt ns i))).length + (if isVoid (ndAt ns i).name = true then 0 else (Tk.tagText (endTok (ndAt ns i))).length)
theorem root_up {ns : List Nd} (h : mayB ns = true) : (ndAt ns 0).up < 0 := by
  have hl := ((mayB_iff ns).1 h).1.1
  have hs := may_shape h (i := 0) (by omega)
  unfold shapeB rootB at hs
  simp only [if_pos, Bool.and_eq_true, beq_iff_eq] at hs
  have := hs.2.1
  omega
theorem le_sum_of_mem {l : List Nat} {x : Nat} (h : x ∈ l) : x ≤ l.sum := by
  induction l with
  | nil => cases h
  | cons y l ih =>
    rw [List.sum_cons]
    rcases List.mem_cons.1 h with rfl | h
    · omega
    · have := ih h; omega
theorem up_kind {ns : List Nd} (h : mayB ns = true) {i u : Nat} (hi : i < ns.length) (h0 : i ≠ 0) (hu : (ndAt ns i).up = (u : Int)) : (ndAt ns u).kind ≠ 3 := by
  have hs := may_shape h hi
  unfold shapeB liesB at hs
  rw [if_neg h0] at hs
  simp only [Bool.and_eq_true] at hs
  have h2 := hs.1.2.2
  rw [hu] at h2
  simpa using h2
end Tre
/- What the nodes of a tree tell, in plain functions on lists: attributes, words, places below, texts. -/
set_option linter.unusedSimpArgs false
namespace Lk
open Tre
abbrev Bs := List UInt8
abbrev At := Bs × Bs
/-- Whether a place is one of a tree. -/
def placeB (ns : List Nd) (at_ : Int) : Bool := decide (0 ≤ at_) && (decide (at_ < (ns.length : Int)) && mayB ns)
theorem place_yes {ns : List Nd} {at_ : Int} (h : placeB ns at_ = true) : ∃ i : Nat, at_ = (i : Int) ∧ i < ns.length ∧ mayB ns = true := by
  unfold placeB at h
  simp only [Bool.and_eq_true, decide_eq_true_eq] at h
  exact ⟨at_.toNat, by omega, by omega, h.2.2⟩
theorem place_at {ns : List Nd} {i : Nat} (hi : i < ns.length) (h : mayB ns = true) : placeB ns (i : Int) = true := by
  unfold placeB
  rw [h, decide_eq_true (by omega), decide_eq_true (by omega)]
  rfl
theorem place_low {ns : List Nd} {at_ : Int} (h : at_ < 0) : placeB ns at_ = false := by
  unfold placeB
  rw [decide_eq_false (by omega), Bool.false_and]
theorem place_high {ns : List Nd} {at_ : Int} (h : (ns.length : Int) ≤ at_) : placeB ns at_ = false := by
  unfold placeB
  rw [decide_eq_false (show ¬ at_ < (ns.length : Int) by omega), Bool.false_and, Bool.and_false]
theorem may_kind {ns : List Nd} (h : mayB ns = true) {i : Nat} (hi : i < ns.length) (h0 : i ≠ 0) : (ndAt ns i).kind = 2 ∨ (ndAt ns i).kind = 3 := by
  have hs := may_shape h hi
  unfold shapeB elemB textB at hs
  rw [if_neg h0] at hs
  simp only [Bool.and_eq_true, Bool.or_eq_true, beq_iff_eq] at hs
  rcases hs.2 with h1 | h1
  · exact .inl h1.1
  · exact .inr h1.1
/-! ### attributes and words -/
def attrF : List At → Bs → Bs × Bool
  | [], _ => ([], false)
  | a :: l, q => if a.1 = q then (a.2, true) else attrF l q
theorem attr_none {q : Bs} : ∀ {l : List At}, Tk.has l q = false → attrF l q = ([], false)
  | [], _ => rfl
  | a :: l, h => by
    unfold Tk.has at h
    rw [List.any_cons, Bool.or_eq_false_iff] at h
    rw [attrF, if_neg (by simpa using h.1)]
    exact attr_none h.2
theorem attr_here {q : Bs} : ∀ {l : List At} {j : Nat} (hj : j < l.length), Tk.has (l.take j) q = false → (l[j].1 == q) = true → attrF l q = (l[j].2, true)
  | [], j, hj, _, _ => by simp at hj
  | a :: l, 0, hj, _, h => by
    rw [attrF, if_pos (by simpa using h)]
    rfl
  | a :: l, j + 1, hj, h, h2 => by
    rw [List.take_succ_cons] at h
    unfold Tk.has at h
    rw [List.any_cons, Bool.or_eq_false_iff] at h
    rw [attrF, if_neg (by simpa using h.1), attr_here (j := j) (by simpa using hj) h.2 (by simpa using h2)]
    rfl
theorem attr_mem {q : Bs} : ∀ (l : List At), (attrF l q).1 = [] ∨ ∃ a ∈ l, (attrF l q).1 = a.2
  | [] => .inl rfl
  | a :: l => by
    rw [attrF]
    split
    · exact .inr ⟨a, List.mem_cons_self .., rfl⟩
    · rcases attr_mem (q := q) l with h | ⟨b, hb, h⟩
      · exact .inl h
      · exact .inr ⟨b, List.mem_cons_of_mem _ hb, h⟩
def ostep (out : List Bs) (x : Bs) : List Bs := if out.contains x = true then out else out ++ [x]
def once (l : List Bs) : List Bs := l.foldl ostep []
theorem once_snoc (l : List Bs) (x : Bs) : once (l ++ [x]) = ostep (once l) x := by unfold once; rw [List.foldl_append]; rfl
theorem once_next (l : List Bs) (j : Nat) (hj : j < l.length) : once (l.take (j + 1)) = ostep (once (l.take j)) l[j] := by
  rw [List.take_succ_eq_append_getElem hj, once_snoc]
theorem once_len : ∀ (l : List Bs) (j : Nat), (once (l.take j)).length ≤ j
  | l, 0 => by simp [once]
  | l, j + 1 => by
    by_cases hj : j < l.length
    · have := once_len l j
      rw [once_next l j hj]
      unfold ostep
      split
      · omega
      · rw [List.length_append]; simp; omega
    · have := once_len l j
      rw [List.take_of_length_le (by omega)] at this ⊢
      omega
theorem once_mem (l : List Bs) : ∀ (j : Nat), ∀ x ∈ once (l.take j), x ∈ l
  | 0, x, h => by simp [once] at h
  | j + 1, x, h => by
    by_cases hj : j < l.length
    · rw [once_next l j hj] at h
      unfold ostep at h
      split at h
      · exact once_mem l j x h
      · rw [List.mem_append, List.mem_singleton] at h
        rcases h with h | rfl
        · exact once_mem l j x h
        · exact List.getElem_mem hj
    · rw [List.take_of_length_le (by omega)] at h
      have := once_mem l j
      rw [List.take_of_length_le (by omega)] at this
      exact this x h
theorem wst_size (l : Bs) : (∀ x ∈ (Asc.wst l).1, x.length ≤ l.length) ∧ (Asc.wst l).2.length ≤ l.length := by
  refine Asc.snoc_ind (P := fun l => (∀ x ∈ (Asc.wst l).1, x.length ≤ l.length) ∧ (Asc.wst l).2.length ≤ l.length) ?_ ?_ l
  · exact ⟨fun x hx => (by cases hx), Nat.le_refl _⟩
  · rintro l c ⟨h1, h2⟩
    rw [Asc.wst_snoc, Asc.wstep, List.length_append, List.length_singleton]
    split
    · split
      · exact ⟨fun x hx => by have := h1 x hx; omega, by simp⟩
      · refine ⟨fun x hx => ?_, by simp⟩
        rw [List.mem_append, List.mem_singleton] at hx
        rcases hx with hx | rfl
        · have := h1 x hx; omega
        · omega
    · refine ⟨fun x hx => by have := h1 x hx; omega, ?_⟩
      simp only [List.length_append, List.length_singleton]
      omega
theorem words_size (l : Bs) : ∀ x ∈ Asc.words l, x.length ≤ l.length := fun x hx => by
  have h := wst_size l
  unfold Asc.words Asc.wfin at hx
  split at hx
  · exact h.1 x hx
  · rw [List.mem_append, List.mem_singleton] at hx
    rcases hx with hx | rfl
    · exact h.1 x hx
    · exact h.2
def classN : Bs := [99, 108, 97, 115, 115]
def altN : Bs := [97, 108, 116]
def srcN : Bs := [115, 114, 99]
def brN : Bs := [98, 114]
def imgN : Bs := [105, 109, 103]
def templateN : Bs := [116, 101, 109, 112, 108, 97, 116, 101]
def wordsA (ats : List At) (q : Bs) : List Bs := once (Asc.words (attrF ats q).1)
def startB (ps : List Bs) (x : Bs) : Bool := ps.any fun p => decide (p.length < x.length) && p.isPrefixOf x
def startsA (ats : List At) (ps : List Bs) : List Bs := (wordsA ats classN).filter (startB ps)
/-! ### places below -/
def undF (ns : List Nd) (top : Nat) : Nat → Nat → Bool
  | 0, i => i == top
  | f + 1, i => if top < i then undF ns top f (ndAt ns i).up.toNat else i == top
/-- Whether a node lies below another one, or is it. -/
def und (ns : List Nd) (top i : Nat) : Bool := undF ns top i i
theorem und_fuel {ns : List Nd} (h : mayB ns = true) {top : Nat} : ∀ f i, i < ns.length → i ≤ f → undF ns top f i = und ns top i := by
  intro f
  induction f using Nat.strongRecOn with
  | ind f ih =>
    intro i hi hf
    cases f with
    | zero =>
      have : i = 0 := by omega
      subst this
      rfl
    | succ f =>
      by_cases h0 : top < i
      · obtain ⟨h1, h2⟩ := may_up h hi (by omega)
        obtain ⟨j, hj⟩ : ∃ j, i = j + 1 := ⟨i - 1, by omega⟩
        have e1 : undF ns top (f + 1) i = undF ns top f (ndAt ns i).up.toNat := by rw [undF, if_pos h0]
        have e2 : und ns top i = undF ns top j (ndAt ns i).up.toNat := by
          unfold und
          conv => lhs; rw [hj, undF, if_pos (by omega), ← hj]
        rw [e1, e2, ih f (by omega) _ (by omega) (by omega)]
        by_cases hjf : j < f + 1
        · rw [ih j hjf _ (by omega) (by omega)]
        · omega
      · rw [undF, if_neg h0]
        unfold und
        cases i with
        | zero => rfl
        | succ i => rw [undF, if_neg h0]
theorem und_up {ns : List Nd} (h : mayB ns = true) {top i : Nat} (hi : i < ns.length) (h0 : top < i) : und ns top i = und ns top (ndAt ns i).up.toNat := by
  obtain ⟨h1, h2⟩ := may_up h hi (by omega)
  rw [← und_fuel h (top := top) (i + 1) i hi (by omega), undF, if_pos h0, und_fuel h i _ (by omega) (by omega)]
theorem und_low {ns : List Nd} {top i : Nat} (h0 : ¬ top < i) : und ns top i = (i == top) := by
  unfold und
  cases i with
  | zero => rfl
  | succ i => rw [undF, if_neg h0]
theorem und_self (ns : List Nd) (top : Nat) : und ns top top = true := by
  rw [und_low (by omega)]
  simp
/-- The first n places that are Elements below another one. -/
def belowTo (ns : List Nd) (top : Nat) : Nat → List Int
  | 0 => []
  | n + 1 => belowTo ns top n ++ (if top < n ∧ (ndAt ns n).kind = 2 ∧ und ns top n = true then [(n : Int)] else [])
def belowL (ns : List Nd) (top : Nat) : List Int := belowTo ns top ns.length
theorem belowTo_none (ns : List Nd) (top : Nat) : ∀ n, n ≤ top + 1 → belowTo ns top n = []
  | 0, _ => rfl
  | n + 1, h => by rw [belowTo, belowTo_none ns top n (by omega), if_neg (by omega)]; rfl
theorem belowTo_len (ns : List Nd) (top : Nat) : ∀ n, (belowTo ns top n).length ≤ n
  | 0 => Nat.le_refl _
  | n + 1 => by
    have := belowTo_len ns top n
    rw [belowTo, List.length_append]
    split <;> simp <;> omega
theorem belowTo_mem (ns : List Nd) (top : Nat) (k : Int) : ∀ n, k ∈ belowTo ns top n ↔ ∃ i : Nat, k = (i : Int) ∧ i < n ∧ top < i ∧ (ndAt ns i).kind = 2 ∧ und ns top i = true
  | 0 => by simp [belowTo]
  | n + 1 => by
    rw [belowTo, List.mem_append, belowTo_mem ns top k n]
    constructor
    · rintro (⟨i, h1, h2, h3⟩ | h)
      · exact ⟨i, h1, by omega, h3⟩
      · split at h
        · rename_i hc
          rw [List.mem_singleton] at h
          exact ⟨n, h, by omega, hc⟩
        · cases h
    · rintro ⟨i, h1, h2, h3⟩
      by_cases e : i = n
      · subst e
        right
        rw [if_pos h3, h1]
        exact List.mem_singleton.2 rfl
      · exact .inl ⟨i, h1, by omega, h3⟩
theorem belowTo_pre (ns : List Nd) (top : Nat) : ∀ m n, n ≤ m → belowTo ns top n <+: belowTo ns top m
  | 0, n, h => by
    have : n = 0 := by omega
    subst this
    exact List.prefix_refl _
  | m + 1, n, h => by
    by_cases he : n = m + 1
    · subst he
      exact List.prefix_refl _
    · exact (belowTo_pre ns top m n (by omega)).trans (by rw [belowTo]; exact List.prefix_append _ _)
theorem belowTo_yes {ns : List Nd} {top k : Nat} (h0 : top < k) (h1 : (ndAt ns k).kind = 2) (h2 : und ns top k = true) : belowTo ns top (k + 1) = belowTo ns top k ++ [(k : Int)] := by rw [belowTo, if_pos ⟨h0, h1, h2⟩]
theorem belowTo_no {ns : List Nd} {top k : Nat} (h : (ndAt ns k).kind ≠ 2 ∨ und ns top k = false) : belowTo ns top (k + 1) = belowTo ns top k := by
  rw [belowTo, if_neg (fun hc => by rcases h with h | h; exact h hc.2.1; rw [h] at hc; cases hc.2.2), List.append_nil]
def elemK (ns : List Nd) (k : Int) : Bool := (ndAt ns k.toNat).kind == 2
def kidsE (ns : List Nd) (i : Nat) : List Int := (ndAt ns i).kids.filter (elemK ns)
def upIs (ns : List Nd) (i : Nat) (k : Int) : Bool := (ndAt ns k.toNat).up == (i : Int)
theorem kids_below {ns : List Nd} (h : mayB ns = true) {i : Nat} (hi : i < ns.length) : (belowL ns i).filter (upIs ns i) = kidsE ns i := by
  unfold belowL kidsE
  rw [may_kids h hi]
  have : ∀ n, n ≤ ns.length → (belowTo ns i n).filter (upIs ns i) = (kidsTo ns i n).filter (elemK ns) := by
    intro n
    induction n with
    | zero => intro _; rfl
    | succ n ih =>
      intro hn
      rw [belowTo, kidsTo, List.filter_append, List.filter_append, ih (by omega)]
      congr 1
      have e : ((n : Int)).toNat = n := by omega
      by_cases hu : (ndAt ns n).up = (i : Int)
      · rw [if_pos hu]
        have h0 : n ≠ 0 := fun e0 => by
          have := root_up h
          rw [e0] at hu
          omega
        have h2 := may_up h (by omega : n < ns.length) h0
        have hun : und ns i n = true := by
          rw [und_up h (by omega) (by omega), hu, Int.toNat_natCast]
          exact und_self ns i
        by_cases hk : (ndAt ns n).kind = 2
        · rw [if_pos ⟨by omega, hk, hun⟩]
          simp [upIs, elemK, e, hu, hk]
        · rw [if_neg (fun hc => hk hc.2.1)]
          simp [elemK, e, hk]
      · rw [if_neg hu]
        split
        · simp [upIs, e, hu]
        · rfl
  exact this ns.length (Nat.le_refl _)
def nameK (ns : List Nd) (names : List Bs) (k : Int) : Bool := names.contains (ndAt ns k.toNat).name
/-! ### texts -/
def hidN (nm : Bs) : Bool := nm == script || (nm == style || nm == templateN)
def image (ats : List At) : Bs := if (attrF ats altN).2 = true then (attrF ats altN).1 else if (attrF ats srcN).2 = true then 32 :: ((attrF ats srcN).1 ++ [32]) else []
/-- What stands for an Element in a plain text. -/
def stands (n : Nd) : Bs := if n.name = brN then [10] else if n.name = imgN then image n.attrs else []
def kidF (ns : List Nd) (p : Bool) : Nat → Int → Bs
  | 0, _ => []
  | f + 1, i =>
    if (ndAt ns i.toNat).kind = 3 then (if hidN (ndAt ns (ndAt ns i.toNat).up.toNat).name = true then [] else (ndAt ns i.toNat).text)
    else (if p = true then stands (ndAt ns i.toNat) else []) ++ (ndAt ns i.toNat).kids.flatMap (kidF ns p f)
/-- What a node tells that lies in another one. -/
def kidT (ns : List Nd) (p : Bool) (i : Nat) : Bs := kidF ns p (ns.length - i) i
/-- What all nodes tell that lie in one. -/
def joinT (ns : List Nd) (p : Bool) (i : Nat) : Bs := (ndAt ns i).kids.flatMap fun k => kidT ns p k.toNat
theorem kidF_fuel {ns : List Nd} (h : mayB ns = true) (p : Bool) : ∀ f i, i < ns.length → ns.length - i ≤ f → kidF ns p f (i : Int) = kidT ns p i := by
  intro f
  induction f using Nat.strongRecOn with
  | ind f ih =>
    intro i hi hf
    unfold kidT
    obtain ⟨g, hg⟩ : ∃ g, ns.length - i = g + 1 := ⟨ns.length - i - 1, by omega⟩
    cases f with
    | zero => omega
    | succ f =>
      rw [hg, kidF, kidF]
      have hk : (ndAt ns i).kids.flatMap (kidF ns p f) = (ndAt ns i).kids.flatMap (kidF ns p g) := flatMap_congr' fun k hk => by
        obtain ⟨j, rfl, h1, h2, _⟩ := may_kid h hi hk
        rw [ih f (by omega) j h2 (by omega)]
        by_cases hgf : g < f + 1
        · rw [ih g hgf j h2 (by omega)]
        · omega
      have e : ((i : Int)).toNat = i := by omega
      simp only [e]
      rw [hk]
theorem kid_text {ns : List Nd} (h : mayB ns = true) (p : Bool) {i : Nat} (hi : i < ns.length) (hk : (ndAt ns i).kind = 3) : kidT ns p i = if hidN (ndAt ns (ndAt ns i).up.toNat).name = true then [] else (ndAt ns i).text := by
  unfold kidT
  obtain ⟨g, hg⟩ : ∃ g, ns.length - i = g + 1 := ⟨ns.length - i - 1, by omega⟩
  have e : ((i : Int)).toNat = i := by omega
  rw [hg, kidF]
  simp only [e]
  rw [if_pos hk]
theorem kid_elem {ns : List Nd} (h : mayB ns = true) (p : Bool) {i : Nat} (hi : i < ns.length) (hk : (ndAt ns i).kind ≠ 3) : kidT ns p i = (if p = true then stands (ndAt ns i) else []) ++ joinT ns p i := by
  unfold kidT
  obtain ⟨g, hg⟩ : ∃ g, ns.length - i = g + 1 := ⟨ns.length - i - 1, by omega⟩
  have e : ((i : Int)).toNat = i := by omega
  rw [hg, kidF]
  simp only [e]
  rw [if_neg hk]
  have : (ndAt ns i).kids.flatMap (kidF ns p g) = joinT ns p i := flatMap_congr' fun k hk => by
    obtain ⟨j, rfl, h1, h2, _⟩ := may_kid h hi hk
    rw [kidF_fuel h p g j h2 (by omega)]
    have e : ((j : Int)).toNat = j := by omega
    rw [e]
  rw [this]
/-- What a node tells when it is asked. -/
def toldT (ns : List Nd) (p : Bool) (i : Nat) : Bs := if (ndAt ns i).kind = 3 then (ndAt ns i).text else joinT ns p i
def plainR (ns : List Nd) (at_ : Int) : Bs := if placeB ns at_ = true then Asc.trim (toldT ns true at_.toNat) else []
/-! ### how long they are -/
/-- What a node adds by itself. -/
def ownK (ns : List Nd) (p : Bool) (i : Nat) : Nat := if (ndAt ns i).kind = 3 then (ndAt ns i).text.length else (if p = true then (stands (ndAt ns i)).length else 0)
theorem join_len (ns : List Nd) (p : Bool) (i : Nat) : (joinT ns p i).length = ((ndAt ns i).kids.map fun k => (kidT ns p k.toNat).length).sum := by
  unfold joinT
  rw [List.length_flatMap]
theorem kid_own {ns : List Nd} (h : mayB ns = true) (p : Bool) {i : Nat} (hi : i < ns.length) : (kidT ns p i).length ≤ ownK ns p i + (joinT ns p i).length := by
  unfold ownK
  by_cases hk : (ndAt ns i).kind = 3
  · rw [kid_text h p hi hk, if_pos hk]
    split
    · simp
    · omega
  · rw [kid_elem h p hi hk, if_neg hk]
    simp only [List.length_append]
    split <;> simp
theorem kid_root {ns : List Nd} (h : mayB ns = true) (p : Bool) : (kidT ns p 0).length ≤ sumTo (ownK ns p) ns.length := by
  have hl := ((mayB_iff ns).1 h).1.1
  have h1 : sumTo (fun i => (kidT ns p i).length) ns.length ≤ sumTo (fun i => ownK ns p i + ((kidsTo ns i ns.length).map fun k => (kidT ns p k.toNat).length).sum) ns.length :=
    sumTo_le _ (fun i hi => by
      have := kid_own h p hi
      rw [join_len, may_kids h hi] at this
      exact this)
  rw [sumTo_add, kids_sum (fun i => (kidT ns p i).length) ns.length (root_up h) ns.length (fun j hj h0 => by have := may_up h hj h0; omega)] at h1
  have h2 : ∀ n, 1 ≤ n → sumTo (fun i => (kidT ns p i).length) n = (kidT ns p 0).length + sumTo (fun j => if j = 0 then 0 else (kidT ns p j).length) n := by
    intro n hn
    induction n with
    | zero => omega
    | succ n ih =>
      by_cases e : n = 0
      · subst e
        simp [sumTo]
      · rw [sumTo, sumTo, ih (by omega), if_neg e]
        omega
  have h3 := h2 ns.length hl
  omega
theorem kid_len {ns : List Nd} (h : mayB ns = true) (p : Bool) : ∀ i, i < ns.length → (kidT ns p i).length ≤ sumTo (ownK ns p) ns.length := by
  intro i
  induction i using Nat.strongRecOn with
  | ind i ih =>
    intro hi
    by_cases h0 : i = 0
    · subst h0; exact kid_root h p
    · have hu := may_up h hi h0
      obtain ⟨u, hue⟩ : ∃ u : Nat, (ndAt ns i).up = (u : Int) := ⟨(ndAt ns i).up.toNat, by omega⟩
      have hui : u < i := by omega
      have h1 := ih u hui (by omega)
      rw [kid_elem h p (by omega : u < ns.length) (up_kind h hi h0 hue)] at h1
      have h2 : (kidT ns p i).length ≤ (joinT ns p u).length := by
        rw [join_len, may_kids h (by omega : u < ns.length)]
        refine le_sum_of_mem (List.mem_map.2 ⟨(i : Int), kidsTo_has hue _ hi, ?_⟩)
        have : ((i : Int)).toNat = i := by omega
        rw [this]
      simp only [List.length_append] at h1
      omega
theorem told_len {ns : List Nd} (h : mayB ns = true) (p : Bool) {i : Nat} (hi : i < ns.length) : (toldT ns p i).length ≤ sumTo (ownK ns p) ns.length := by
  unfold toldT
  split
  · rename_i hk
    have : ownK ns p i = (ndAt ns i).text.length := by unfold ownK; rw [if_pos hk]
    rw [← this]
    have hs : ∀ n, i < n → ownK ns p i ≤ sumTo (ownK ns p) n := by
      intro n
      induction n with
      | zero => intro h; omega
      | succ n ih =>
        intro h
        rw [sumTo]
        by_cases e : i = n
        · subst e; omega
        · have := ih (by omega); omega
    exact hs _ hi
  · rename_i hk
    have := kid_len h p i hi
    rw [kid_elem h p hi hk] at this
    simp only [List.length_append] at this
    omega
theorem image_len {ats : List At} {M : Nat} (h : ∀ a ∈ ats, a.2.length ≤ M) : (image ats).length ≤ M + 2 := by
  have hv : ∀ q, (attrF ats q).1.length ≤ M := fun q => by
    rcases attr_mem (q := q) ats with e | ⟨a, ha, e⟩
    · rw [e]; exact Nat.zero_le _
    · rw [e]; exact h a ha
  unfold image
  split
  · have := hv altN; omega
  · split
    · have := hv srcN
      simp only [List.length_cons, List.length_append, List.length_nil]
      omega
    · exact Nat.zero_le _
theorem stands_len {n : Nd} {M : Nat} (h : ∀ a ∈ n.attrs, a.2.length ≤ M) : (stands n).length ≤ M + 2 := by
  unfold stands
  split
  · simp
  · split
    · exact image_len h
    · exact Nat.zero_le _
theorem told_most {ns : List Nd} (h : mayB ns = true) (p : Bool) {M K : Nat} (hn : ns.length ≤ K) (ht : ∀ i, i < ns.length → (ndAt ns i).text.length ≤ M) (hv : ∀ i, i < ns.length → ∀ a ∈ (ndAt ns i).attrs, a.2.length ≤ M) {i : Nat} (hi : i < ns.length) : (toldT ns p i).length ≤ K * (M + 2) := by
  have h1 := told_len h p hi
  have h2 : sumTo (ownK ns p) ns.length ≤ sumTo (fun _ => M + 2) ns.length := sumTo_le _ (fun j hj => by
    unfold ownK
    split
    · have := ht j hj; omega
    · split
      · exact stands_len (hv j hj)
      · omega)
  rw [sumTo_const] at h2
  exact Nat.le_trans (Nat.le_trans h1 h2) (Nat.mul_le_mul_right _ hn)
end Lk
/- What the laws' far counts of a tree, in plain functions. -/
namespace Lk
open Tre
def wAt (M : Nat) (p : At) : Nat := min p.1.length M + min p.2.length M + 1
def aTo (M : Nat) (ats : List At) (j : Nat) : Nat := ((ats.take j).map (wAt M)).sum
def wNd (M : Nat) (n : Nd) : Nat := min n.name.length M + min n.text.length M + min n.kids.length M + aTo M n.attrs n.attrs.length
def nTo (M : Nat) (ns : List Nd) (j : Nat) : Nat := ((ns.take j).map (wNd M)).sum
/-- What far answers. -/
def farL (M K : Nat) (ns : List Nd) : Bool := (ns.take K).any (fun n => decide (100 < n.attrs.length)) || (decide (M < nTo M ns K) || decide (K < ns.length))
theorem aTo_next (M : Nat) (ats : List At) (j : Nat) (h : j < ats.length) : aTo M ats (j + 1) = aTo M ats j + wAt M ats[j] := by
  unfold aTo
  rw [List.take_add_one, List.getElem?_eq_getElem h, List.map_append, List.sum_append]
  simp
theorem aTo_le (M : Nat) (hM : M ≤ 3000) (ats : List At) (j : Nat) : aTo M ats j ≤ 6001 * j := by
  induction j with
  | zero => simp [aTo]
  | succ j ih =>
    by_cases h : j < ats.length
    · rw [aTo_next M ats j h]
      have : wAt M ats[j] ≤ 6001 := by unfold wAt; omega
      omega
    · have e : aTo M ats (j + 1) = aTo M ats j := by
        unfold aTo
        rw [List.take_of_length_le (by omega), List.take_of_length_le (by omega)]
      omega
theorem nTo_next (M : Nat) (ns : List Nd) (j : Nat) (h : j < ns.length) : nTo M ns (j + 1) = nTo M ns j + wNd M (ndAt ns j) := by
  unfold nTo
  rw [List.take_add_one, ndAt_get h]
  simp
theorem nTo_le (M : Nat) (hM : M ≤ 3000) (ns : List Nd) (j : Nat) (hj : j ≤ ns.length) (ha : ∀ i, i < j → (ndAt ns i).attrs.length ≤ 100) : nTo M ns j ≤ 700000 * j := by
  induction j with
  | zero => simp [nTo]
  | succ j ih =>
    rw [nTo_next M ns j (by omega)]
    have h1 := ih (by omega) (fun i hi => ha i (by omega))
    have : wNd M (ndAt ns j) ≤ 700000 := by
      unfold wNd
      have := aTo_le M hM (ndAt ns j).attrs (ndAt ns j).attrs.length
      have := ha j (by omega)
      omega
    omega
theorem farL_big {M K : Nat} {ns : List Nd} {j : Nat} (hj : j < ns.length) (h2 : j < K) (h : 100 < (ndAt ns j).attrs.length) : farL M K ns = true := by
  unfold farL
  have : (ns.take K).any (fun n => decide (100 < n.attrs.length)) = true := by
    rw [List.any_eq_true]
    refine ⟨ndAt ns j, ?_, decide_eq_true h⟩
    refine List.mem_of_getElem? (i := j) ?_
    rw [List.getElem?_take, if_pos h2, ndAt_get hj]
  rw [this, Bool.true_or]
theorem farL_end {M K : Nat} {ns : List Nd} {m : Nat} (hm : min ns.length K = m) (h : ∀ i, i < m → (ndAt ns i).attrs.length ≤ 100) : farL M K ns = (decide (M < nTo M ns m) || decide (K < ns.length)) := by
  unfold farL
  have e : ns.take K = ns.take m := by
    by_cases h1 : ns.length ≤ K
    · rw [List.take_of_length_le h1, List.take_of_length_le (by omega)]
    · rw [show m = K from by omega]
  have e2 : nTo M ns K = nTo M ns m := by unfold nTo; rw [e]
  have : (ns.take K).any (fun n => decide (100 < n.attrs.length)) = false := by
    rw [List.any_eq_false]
    intro x hx
    rw [e] at hx
    obtain ⟨i, hi⟩ := List.getElem?_of_mem hx
    rw [List.getElem?_take] at hi
    split at hi
    · rename_i him
      have := h i him
      rw [ndAt_some hi] at this
      simpa using this
    · cases hi
  rw [this, Bool.false_or, e2]
theorem farL_no {M K : Nat} {ns : List Nd} (h : farL M K ns = false) : ns.length ≤ K ∧ nTo M ns ns.length ≤ M ∧ ∀ i, i < ns.length → (ndAt ns i).attrs.length ≤ 100 := by
  have hk : ns.length ≤ K := by
    unfold farL at h
    simp only [Bool.or_eq_false_iff, decide_eq_false_iff_not] at h
    omega
  have ha : ∀ i, i < ns.length → (ndAt ns i).attrs.length ≤ 100 := fun i hi => by
    rcases Nat.lt_or_ge 100 (ndAt ns i).attrs.length with h3 | h3
    · rw [farL_big hi (by omega) h3] at h
      cases h
    · exact h3
  refine ⟨hk, ?_, ha⟩
  rw [farL_end (m := ns.length) (by omega) ha] at h
  simp only [Bool.or_eq_false_iff, decide_eq_false_iff_not] at h
  omega
theorem nTo_sum (M : Nat) {ns : List Nd} : ∀ n, n ≤ ns.length → nTo M ns n = sumTo (fun i => wNd M (ndAt ns i)) n
  | 0, _ => by simp [nTo, sumTo]
  | n + 1, h => by rw [nTo_next M ns n (by omega), nTo_sum M n (by omega), sumTo]
theorem one_le_sumTo {f : Nat → Nat} {i : Nat} : ∀ n, i < n → f i ≤ sumTo f n
  | 0, h => by omega
  | n + 1, h => by
    rw [sumTo]
    by_cases e : i = n
    · subst e; omega
    · have := one_le_sumTo (f := f) n (by omega : i < n); omega
theorem two_le_sumTo {f : Nat → Nat} {i u : Nat} (hne : i ≠ u) : ∀ n, i < n → u < n → f i + f u ≤ sumTo f n
  | 0, h, _ => by omega
  | n + 1, h, h2 => by
    rw [sumTo]
    by_cases e : i = n
    · subst e
      have := one_le_sumTo (f := f) (i := u) i (by omega); omega
    · by_cases e2 : u = n
      · subst e2
        have := one_le_sumTo (f := f) (i := i) u (by omega); omega
      · have := two_le_sumTo (f := f) hne n (by omega) (by omega); omega
theorem wAt_mem (M : Nat) {ats : List At} {a : At} (h : a ∈ ats) : wAt M a ≤ aTo M ats ats.length := by
  unfold aTo
  rw [List.take_length]
  exact le_sum_of_mem (List.mem_map.2 ⟨a, h, rfl⟩)
/-- A node of a tree that is not far: nothing of it is long. -/
theorem far_small {M K : Nat} {ns : List Nd} (h : farL M K ns = false) (hM : 0 < M) (hm : mayB ns = true) {i : Nat} (hi : i < ns.length) : (ndAt ns i).name.length ≤ M ∧ (ndAt ns i).text.length ≤ M ∧ ∀ a ∈ (ndAt ns i).attrs, a.1.length ≤ M ∧ a.2.length ≤ M := by
  obtain ⟨hk, hn, ha⟩ := farL_no h
  by_cases h0 : i = 0
  · subst h0
    have hs := may_shape hm hi
    unfold shapeB rootB at hs
    simp only [if_pos, Bool.and_eq_true, beq_iff_eq] at hs
    obtain ⟨_, _, h3, h4, h5⟩ := hs
    rw [h3, h5, List.length_eq_zero_iff.1 h4]
    exact ⟨Nat.zero_le _, Nat.zero_le _, fun a ha => by cases ha⟩
  · rw [nTo_sum M _ (Nat.le_refl _)] at hn
    have hu := may_up hm hi h0
    obtain ⟨u, hue⟩ : ∃ u : Nat, (ndAt ns i).up = (u : Int) := ⟨(ndAt ns i).up.toNat, by omega⟩
    have hul : u < ns.length := by omega
    have h2 := two_le_sumTo (f := fun i => wNd M (ndAt ns i)) (i := i) (u := u) (by omega) ns.length hi hul
    have hk1 : 1 ≤ (ndAt ns u).kids.length := by
      rw [may_kids hm hul]
      exact List.length_pos_iff.2 (List.ne_nil_of_mem (kidsTo_has hue _ hi))
    have hw : 1 ≤ wNd M (ndAt ns u) := by unfold wNd; omega
    have hwi : wNd M (ndAt ns i) ≤ M - 1 := by omega
    unfold wNd at hwi
    refine ⟨by omega, by omega, fun a ha => ?_⟩
    have := wAt_mem M ha
    unfold wAt at this
    omega
end Lk
/- The document of the alive of stage 14's laws: its tokens, its tree, what it tells. -/
namespace Lk
open Tk Tre
def alS : Bs := [60, 112, 32, 99, 108, 97, 115, 115, 61, 34, 97, 32, 32, 98, 32, 97, 34, 62, 120, 60, 98, 114, 62, 121, 60, 47, 112, 62]
def pN : Bs := [112]
def clV : Bs := [97, 32, 32, 98, 32, 97]
def tS (n : Bs) : Tok := ⟨1, n, [], false, []⟩
def tE (n : Bs) : Tok := ⟨2, n, [], false, []⟩
def tP : Tok := ⟨1, pN, [(classN, clV)], false, []⟩
theorem good_nil : goodA [] := ⟨by simp, List.Pairwise.nil, by simp⟩
theorem good_br : goodT brN := ⟨⟨98, [114], rfl, by decide⟩, by decide +kernel, by decide +kernel⟩
theorem good_p : goodT pN := ⟨⟨112, [], rfl, by decide⟩, by decide +kernel, by decide +kernel⟩
theorem enc_step (c : UInt8) (t : Bs) (b : Bool) (h : Rf.one b (c :: t) = ([c], 1)) : Rf.enc b (c :: t) = c :: Rf.enc b t := by
  rw [Rf.enc_go _ _ (by simp), h]
  rfl
theorem enc_cl : Rf.enc true clV = clV := by
  unfold clV
  rw [enc_step _ _ _ (by decide +kernel), enc_step _ _ _ (by decide +kernel), enc_step _ _ _ (by decide +kernel), enc_step _ _ _ (by decide +kernel), enc_step _ _ _ (by decide +kernel), enc_step _ _ _ (by decide +kernel), Rf.enc_nil]
theorem enc_x : Rf.enc false [120] = [120] := by rw [enc_step _ _ _ (by decide +kernel), Rf.enc_nil]
theorem enc_y : Rf.enc false [121] = [121] := by rw [enc_step _ _ _ (by decide +kernel), Rf.enc_nil]
theorem step_start (k : Tok) (T R : Bs) (e : tagText k = T) (h1 : k.kind = 1) (hx : k.text = []) (hn : goodT k.name) (ha : goodA k.attrs) (hr : isRaw k.name = false) : stepT (T ++ R) = ([k], R) := by
  have h := more_start k R h1 hx hn ha
  rw [e] at h
  unfold stepT
  have hr' : ¬ (k.kind = 1 ∧ isRaw k.name = true) := fun x => by
    have := x.2
    rw [hr] at this
    cases this
  rw [h, if_neg hr', if_neg (by rw [h1]; decide), List.drop_left]
theorem step_end (n R : Bs) (hn : goodT n) : stepT (60 :: 47 :: (n ++ 62 :: R)) = ([tE n], R) := by
  have h := more_end (tE n) R rfl rfl rfl rfl hn
  have e : tagText (tE n) ++ R = 60 :: 47 :: (n ++ 62 :: R) := by simp [tagText, tE]
  rw [e] at h
  unfold stepT
  rw [h, if_neg (by show ¬ (2 = 1 ∧ _); simp), if_neg (by show ¬ (2 = 0); decide), ← e, List.drop_left]
theorem step_one (c : UInt8) (R : Bs) (h : Rf.enc false [c] = [c]) (hR : isTag R = true) : stepT (c :: R) = ([textTok [c]], R) := by
  have h := more_text [c] R (by simp) (.inr hR)
  rename_i he
  rw [he, List.singleton_append] at h
  unfold stepT
  rw [h, if_neg (by show ¬ (3 = 1 ∧ _); simp), if_neg (by show ¬ (3 = 0); decide)]
  rfl
theorem good_cl : goodA [(classN, clV)] := ⟨by simp, by simp, fun a ha => by
  rw [List.mem_singleton] at ha
  subst ha
  exact ⟨⟨99, [108, 97, 115, 115], rfl, by decide +kernel, by decide +kernel⟩, by decide +kernel⟩⟩
theorem tag_p : tagText tP = [60, 112, 32, 99, 108, 97, 115, 115, 61, 34, 97, 32, 32, 98, 32, 97, 34, 62] := by
  simp [tagText, tP, tailText, attrText, enc_cl]
  decide
theorem tag_br : tagText (tS brN) = [60, 98, 114, 62] := by simp [tagText, tS, tailText, brN]
theorem al_all : all alS = [tP, textTok [120], tS brN, textTok [121], tE pN] := by
  have s1 : stepT alS = ([tP], [120, 60, 98, 114, 62, 121, 60, 47, 112, 62]) := step_start tP _ [120, 60, 98, 114, 62, 121, 60, 47, 112, 62] tag_p rfl rfl good_p good_cl (by decide)
  have s2 : stepT [120, 60, 98, 114, 62, 121, 60, 47, 112, 62] = ([textTok [120]], [60, 98, 114, 62, 121, 60, 47, 112, 62]) := step_one 120 _ enc_x (by decide)
  have s3 : stepT [60, 98, 114, 62, 121, 60, 47, 112, 62] = ([tS brN], [121, 60, 47, 112, 62]) := step_start (tS brN) _ [121, 60, 47, 112, 62] tag_br rfl rfl good_br good_nil (by decide)
  have s4 : stepT [121, 60, 47, 112, 62] = ([textTok [121]], [60, 47, 112, 62]) := step_one 121 _ enc_y (by decide)
  have s5 : stepT [60, 47, 112, 62] = ([tE pN], []) := step_end pN [] good_p
  rw [all_go alS (by decide), s1]
  show _ ++ all [120, 60, 98, 114, 62, 121, 60, 47, 112, 62] = _
  rw [all_go [120, 60, 98, 114, 62, 121, 60, 47, 112, 62] (by simp), s2]
  show _ ++ (_ ++ all [60, 98, 114, 62, 121, 60, 47, 112, 62]) = _
  rw [all_go [60, 98, 114, 62, 121, 60, 47, 112, 62] (by simp), s3]
  show _ ++ (_ ++ (_ ++ all [121, 60, 47, 112, 62])) = _
  rw [all_go [121, 60, 47, 112, 62] (by simp), s4]
  show _ ++ (_ ++ (_ ++ (_ ++ all [60, 47, 112, 62]))) = _
  rw [all_go [60, 47, 112, 62] (by simp), s5]
  rfl
theorem al_clean : clean alS = alS := by
  unfold clean
  have h := Rf.text_lows alS [] (by decide)
  rw [List.append_nil, Utf.isText_nil] at h
  rw [Utf.rep_self alS h]
  decide +kernel
def alN : List Nd := [⟨1, [], [], [], -1, [1]⟩, ⟨2, pN, [(classN, clV)], [], 0, [2, 3, 4]⟩, ⟨3, [], [], [120], 1, []⟩, ⟨2, brN, [], [], 1, []⟩, ⟨3, [], [], [121], 1, []⟩]
theorem al_tree : parseT [tP, textTok [120], tS brN, textTok [121], tE pN] = .ok alN := by rfl
theorem al_may : mayB alN = true := by decide +kernel
theorem al_words : once (Asc.words (attrF (ndAt alN 1).attrs classN).1) = [[97], [98]] := by decide +kernel
theorem al_has : (Asc.words (attrF (ndAt alN 1).attrs classN).1).contains [98] = true := by decide +kernel
theorem al_kids : kidsE alN 0 = [1] := by decide +kernel
theorem al_plain : Asc.trim (toldT alN true 0) = [120, 10, 121] := by decide +kernel
end Lk
