/- Texts laid as one. -/
import Derived.Test.YtiodaahncadodaaGreatDoorKTkEG
import Derived.Test.YtiodaahncadodaaGreatDoorKRfM
/- Plain mathematics of a reader's next: texts, marks, texts of their own; all tokens as the reader gives them. -/
set_option linter.unusedVariables false
set_option linter.unusedSimpArgs false
namespace Go.Proofs.YtiodaahncadodaaGreatDoor
open Go.RowKit
theorem drop_at (s : List UInt8) (k : Nat) (h : k < s.length) : s.drop k = s[k] :: s.drop (k + 1) := List.drop_eq_getElem_cons h
theorem upto_yes (s : List UInt8) (h : Tk.isTag s = true) : Tk.upto s = 0 := by
  cases s with
  | nil => rfl
  | cons c t => rw [Tk.upto, if_pos h]
theorem upto_no (s : List UInt8) (k : Nat) (h : k < s.length) (ht : Tk.isTag (s.drop k) = false) : Tk.upto (s.drop k) = Tk.upto (s.drop (k + 1)) + 1 := by
  rw [drop_at s k h] at ht ⊢
  rw [Tk.upto, ht]
  simp
/-! ### a mark -/
theorem fd_skip (t : List UInt8) (c d : UInt8) (hc : c ≠ 62) (hd : d ≠ 62) : Tk.fd [62] (c :: d :: t) = Tk.fd [62] t + 2 := by
  have e1 : [62].isPrefixOf (c :: d :: t) = false := by
    have : (62 == c) = false := beq_eq_false_iff_ne.2 fun e => hc e.symm
    simp [List.isPrefixOf, this]
  have e2 : [62].isPrefixOf (d :: t) = false := by
    have : (62 == d) = false := beq_eq_false_iff_ne.2 fun e => hd e.symm
    simp [List.isPrefixOf, this]
  rw [Tk.fd, e1, if_neg (by decide), Tk.fd, e2, if_neg (by decide)]
theorem doctype_fd (s : List UInt8) : Tk.begins Tk.doctype (s.take (Tk.fd [62] s)) = Tk.begins Tk.doctype s := by
  have hn := fd_le [62] s
  by_cases h9 : 9 ≤ Tk.fd [62] s
  · unfold Tk.begins
    have e1 : Tk.doctype.length = 9 := rfl
    rw [e1, List.length_take, List.take_take, Nat.min_eq_left h9, decide_eq_true (show 9 ≤ min (Tk.fd [62] s) s.length by omega), decide_eq_true (show 9 ≤ s.length by omega)]
  · have hL : Tk.begins Tk.doctype (s.take (Tk.fd [62] s)) = false := by
      unfold Tk.begins
      have e1 : Tk.doctype.length = 9 := rfl
      rw [e1, List.length_take, decide_eq_false (by omega)]
      rfl
    rw [hL]
    symm
    unfold Tk.begins
    have e1 : Tk.doctype.length = 9 := rfl
    rw [e1]
    by_cases hs : 9 ≤ s.length
    · rcases Tk.fd_at [62] s with e | ⟨r, e⟩
      · omega
      · generalize Tk.fd [62] s = n at *
        rw [Bool.and_eq_false_iff]
        right
        rw [beq_eq_false_iff_ne]
        intro he
        have hg : s[n]? = some 62 := by
          have : (s.drop n)[0]? = some 62 := by rw [e]; rfl
          rwa [List.getElem?_drop, Nat.add_zero] at this
        have h2 : (Asc.lower (s.take 9))[n]? = Tk.doctype[n]? := by rw [he]
        unfold Asc.lower at h2
        rw [List.getElem?_map, List.getElem?_take, if_pos (by omega), hg] at h2
        have h3 : ∀ m : Fin 9, ¬ (Option.map Asc.lowerC (some 62) = Tk.doctype[m.val]?) := by decide +kernel
        exact h3 ⟨n, by omega⟩ h2
    · rw [decide_eq_false hs]
      rfl
/-- What mark answers, and leaves. -/
def markP (s : List UInt8) : Tk.Tok × List UInt8 :=
  (if Tk.begins Tk.doctype s = true then ⟨5, [], [], false, []⟩ else ⟨4, [], [], false, (s.drop 2).take (Tk.fd [62] (s.drop 2))⟩, s.drop (Tk.fd [62] (s.drop 2) + 3))
/-! ### a text of its own -/
theorem begins_cons (n s : List UInt8) : Tk.endHere n (60 :: 47 :: s) = endOf n s := by
  unfold Tk.endHere endOf Tk.begins
  have e1 : (60 :: 47 :: n : List UInt8).length = n.length + 2 := rfl
  have e2 : (60 :: 47 :: s : List UInt8).length = s.length + 2 := rfl
  rw [e1, e2, List.take_succ_cons, List.take_succ_cons, Nat.add_comm 2 n.length]
  have e3 : (60 :: 47 :: s : List UInt8).drop (n.length + 2) = s.drop n.length := rfl
  rw [e3]
  have e4 : Asc.lower (60 :: 47 :: s.take n.length) = 60 :: 47 :: Asc.lower (s.take n.length) := rfl
  rw [e4]
  have e5 : decide (n.length + 2 ≤ s.length + 2) = decide (n.length ≤ s.length) := by
    by_cases h : n.length ≤ s.length
    · rw [decide_eq_true h, decide_eq_true (by omega)]
    · rw [decide_eq_false h, decide_eq_false (by omega)]
  rw [e5]
  congr 2
theorem low_inv (c : UInt8) (x : UInt8) (hx : Tk.letB x = false) (h : Asc.lowerC c = x) : c = x := by
  subst h
  have := Tk.byte_all (P := fun c => Tk.letB (Asc.lowerC c) || c == Asc.lowerC c) (by decide +kernel) c
  rw [hx] at this
  simpa using this
theorem endHere_no (n : List UInt8) (c : UInt8) (t : List UInt8) (h : [60, 47].isPrefixOf (c :: t) = false) : Tk.endHere n (c :: t) = false := by
  unfold Tk.endHere Tk.begins
  have hb : (Asc.lower ((c :: t).take (60 :: 47 :: n : List UInt8).length) == 60 :: 47 :: n) = false := by
    rw [beq_eq_false_iff_ne]
    intro he
    rw [show (60 :: 47 :: n : List UInt8).length = n.length + 2 from rfl, List.take_succ_cons] at he
    have h1 : Asc.lowerC c :: Asc.lower (t.take (n.length + 1)) = 60 :: 47 :: n := he
    have h2 := List.cons.inj h1
    have hc := low_inv c 60 (by decide +kernel) h2.1
    cases t with
    | nil => cases h2.2
    | cons d t =>
      rw [List.take_succ_cons] at h2
      have h3 : Asc.lowerC d :: Asc.lower (t.take n.length) = 47 :: n := h2.2
      have hd := low_inv d 47 (by decide +kernel) (List.cons.inj h3).1
      subst hc hd
      revert h
      simp [List.isPrefixOf]
  rw [hb]
  simp
/-- Bytes ahead of the next </ are gone past. -/
theorem ends_fd (n : List UInt8) : ∀ s : List UInt8, Tk.ends n s = Tk.fd [60, 47] s + Tk.ends n (s.drop (Tk.fd [60, 47] s))
  | [] => rfl
  | c :: t => by
    cases h : [60, 47].isPrefixOf (c :: t)
    · rw [Tk.fd, h, if_neg (by decide), Tk.ends, endHere_no n c t h, if_neg (by decide), ends_fd n t, List.drop_succ_cons]
      omega
    · rw [Tk.fd, h, if_pos rfl]
      simp
theorem ends_here (n t : List UInt8) (h : endOf n t = true) : Tk.ends n (60 :: 47 :: t) = 0 := by
  rw [Tk.ends, begins_cons, if_pos h]
theorem ends_on (n t : List UInt8) (h : endOf n t = false) : Tk.ends n (60 :: 47 :: t) = Tk.ends n t + 2 := by
  rw [Tk.ends, begins_cons, h, if_neg (by decide), Tk.ends, endHere_no n 47 t (by simp [List.isPrefixOf]), if_neg (by decide)]
/-! ### a tag's rest is an end of the text -/
theorem attr_suffix (l : List UInt8) : ∃ p, l = p ++ (Tk.attr l).2 := by
  unfold Tk.attr
  split
  · exact ⟨Tk.attrN l, (Tk.attrN_R _).symm⟩
  · rename_i r2 e2
    have a1 := Tk.attrN_R l
    obtain ⟨p3, hp3⟩ : ∃ p3, Tk.attrR l = p3 ++ r2 := by
      unfold Tk.eqR at e2
      have b1 := List.takeWhile_append_dropWhile (p := Asc.isBlank) (l := Tk.attrR l)
      split at e2
      · cases e2
      · rename_i c3 q3 e3
        split at e2
        · cases e2
          have b2 := List.takeWhile_append_dropWhile (p := Asc.isBlank) (l := q3)
          refine ⟨(Tk.attrR l).takeWhile Asc.isBlank ++ c3 :: q3.takeWhile Asc.isBlank, ?_⟩
          rw [List.append_assoc, List.cons_append, b2, ← e3, b1]
        · cases e2
    obtain ⟨p4, hp4⟩ : ∃ p4, r2 = p4 ++ Tk.valR r2 := by
      cases r2 with
      | nil => exact ⟨[], rfl⟩
      | cons q4 t4 =>
        rw [Tk.valR]
        split
        · have b3 := List.takeWhile_append_dropWhile (p := (· != q4)) (l := t4)
          have b4 := List.take_append_drop 1 (t4.dropWhile (· != q4))
          refine ⟨q4 :: (t4.takeWhile (· != q4) ++ (t4.dropWhile (· != q4)).take 1), ?_⟩
          rw [List.cons_append, List.append_assoc, b4, b3]
        · exact ⟨_, (List.takeWhile_append_dropWhile (p := Tk.vn)).symm⟩
    refine ⟨Tk.attrN l ++ (p3 ++ p4), ?_⟩
    show _ = _ ++ Tk.valR r2
    rw [List.append_assoc, List.append_assoc, ← hp4, ← hp3, a1]
theorem tgF_suffix : ∀ (f : Nat) (l : List UInt8) (ats : List Pr) (sl : Bool) (x : List Pr × Bool × List UInt8), Tk.tgF f l ats sl = some x → ∃ p, l = p ++ x.2.2
  | 0, l, ats, sl, x, h => by cases h
  | f + 1, [], ats, sl, x, h => by cases h
  | f + 1, d :: u, ats, sl, x, h => by
    rw [Tk.tgF] at h
    split at h
    · cases h; exact ⟨[d], rfl⟩
    split at h
    · obtain ⟨p, hp⟩ := tgF_suffix f _ _ _ x h
      exact ⟨d :: p, by rw [hp]; rfl⟩
    · obtain ⟨p, hp⟩ := tgF_suffix f _ _ _ x h
      obtain ⟨p2, hp2⟩ := attr_suffix (d :: u)
      exact ⟨p2 ++ p, by rw [List.append_assoc, ← hp, ← hp2]⟩
theorem tag_suffix (l r : List UInt8) (k : Tk.Tok) (hk : Tk.tag l = some (k, r)) : ∃ p, l = p ++ r := by
  unfold Tk.tag at hk
  split at hk
  · cases hk
  · rename_i ats sl q eq
    cases hk
    obtain ⟨p, hp⟩ := tgF_suffix _ _ _ _ _ eq
    have b := List.takeWhile_append_dropWhile (p := Tk.tn) (l := l)
    exact ⟨l.takeWhile Tk.tn ++ p, by rw [List.append_assoc, ← hp, b]⟩
theorem suffix_drop (q l r : List UInt8) (h : ∃ p, l = p ++ r) : (q ++ l).drop ((q ++ l).length - r.length) = r := by
  obtain ⟨p, rfl⟩ := h
  rw [← List.append_assoc]
  exact List.drop_left' (by simp only [List.length_append]; omega)
/-! ### next -/
def decT (n x : List UInt8) : List UInt8 := if Tk.isDec n = true then Rf.dec false x else x
def ownP (n s : List UInt8) : Tk.Tok × List UInt8 := (Tk.textTok (decT n (s.take (Tk.ends n s))), s.drop (Tk.ends n s))
/-- What Next tells, with what is left. -/
def nxL (s : List UInt8) : Tk.Tok × List UInt8 := ((Tk.next s).1, s.drop (Tk.next s).2)
def nxA (k : Tk.Tok) : List UInt8 := if k.kind = 1 ∧ Tk.isRaw k.name = true then k.name else []
theorem nx_start (l : List UInt8) (h : Tk.atLetter l = true) : nxL (60 :: l) = tagP l ∧ nxA (tagP l).1 = aheadP (tagP l).1 [] := by
  have hi : Tk.isTag (60 :: l) = true := by
    cases l with
    | nil => cases h
    | cons c t =>
      have hc : Tk.letB c = true := h
      show (Tk.letB c || c == 47 || c == 33 || c == 63) = true
      rw [hc]
      rfl
  constructor
  · unfold nxL Tk.next tagP
    rw [if_neg (by simp), if_neg (by rw [hi]; simp), if_pos (by exact h)]
    show ((match Tk.tag l with | none => _ | some (k, r) => _ : Tk.Tok × Nat).1, List.drop (match Tk.tag l with | none => _ | some (k, r) => _ : Tk.Tok × Nat).2 (60 :: l)) = _
    cases he : Tk.tag l with
    | none => exact congrArg (Prod.mk _) (List.drop_length ..)
    | some x =>
      obtain ⟨k, r⟩ := x
      exact congrArg (Prod.mk _) (suffix_drop [60] l r (tag_suffix l r k he))
  · unfold nxA aheadP
    rcases tagP_kind l with e | e
    · rw [e]
      rfl
    · rw [e]
      simp
theorem nx_end (l : List UInt8) (h : Tk.atLetter l = true) : nxL (60 :: 47 :: l) = endP (tagP l) ∧ nxA (endP (tagP l)).1 = [] := by
  constructor
  · have hk := tagP_kind l
    unfold nxL Tk.next
    rw [if_neg (by simp), if_neg (by simp [Tk.isTag]), if_neg (by show ¬ Tk.letB 47 = true; decide +kernel), if_pos ⟨rfl, by exact h⟩]
    show ((match Tk.tag l with | none => _ | some (k, r) => _ : Tk.Tok × Nat).1, List.drop (match Tk.tag l with | none => _ | some (k, r) => _ : Tk.Tok × Nat).2 (60 :: 47 :: l)) = _
    unfold tagP at hk ⊢
    cases he : Tk.tag l with
    | none => exact congrArg (Prod.mk _) (List.drop_length ..)
    | some x =>
      obtain ⟨k, r⟩ := x
      have h1 : k.kind = 1 := by
        rw [he] at hk
        rcases hk with e | e
        · have := congrArg (·.1.kind) e
          unfold Tk.tag at he
          split at he
          · cases he
          · cases he
            rfl
        · exact e
      unfold endP
      rw [if_neg (by show ¬ k.kind = 0; omega)]
      exact congrArg (Prod.mk _) (suffix_drop [60, 47] l r (tag_suffix l r k he))
  · unfold endP
    split <;> rfl
theorem nx_mark (d : UInt8) (t : List UInt8) (hd : d = 47 ∨ d = 33 ∨ d = 63) (h1 : tagAt [60, 47] (60 :: d :: t) = false) (h2 : [60, 33, 45, 45].isPrefixOf (60 :: d :: t) = false) : nxL (60 :: d :: t) = markP (60 :: d :: t) ∧ nxA (markP (60 :: d :: t)).1 = [] := by
  have hi : Tk.isTag (60 :: d :: t) = true := by
    show (Tk.letB d || d == 47 || d == 33 || d == 63) = true
    rcases hd with rfl | rfl | rfl <;> decide +kernel
  have hl : ¬ Tk.atLetter ((60 :: d :: t).drop 1) = true := by
    show ¬ Tk.letB d = true
    rcases hd with rfl | rfl | rfl <;> decide +kernel
  have he : ¬ (((60 :: d :: t).drop 1).head? = some 47 ∧ Tk.atLetter ((60 :: d :: t).drop 2) = true) := by
    rintro ⟨e1, e2⟩
    have e3 : d = 47 := by simpa using e1
    subst e3
    have e4 : Tk.atLetter t = true := e2
    have : tagAt [60, 47] (60 :: 47 :: t) = true := by
      unfold tagAt
      show ([60, 47].isPrefixOf (60 :: 47 :: t) && Tk.atLetter t) = true
      rw [e4]
      simp [List.isPrefixOf]
    rw [this] at h1
    cases h1
  have hb : ¬ Tk.begins [60, 33, 45, 45] (60 :: d :: t) = true := by
    intro hb
    unfold Tk.begins at hb
    rw [Bool.and_eq_true] at hb
    have e1 : Asc.lower ((60 :: d :: t).take 4) = [60, 33, 45, 45] := by simpa using hb.2
    match t, e1 with
    | x :: y :: u, e1 =>
      have e2 : [Asc.lowerC 60, Asc.lowerC d, Asc.lowerC x, Asc.lowerC y] = [60, 33, 45, 45] := e1
      simp only [List.cons.injEq, and_true] at e2
      have i1 := low_inv d 33 (by decide +kernel) e2.2.1
      have i2 := low_inv x 45 (by decide +kernel) e2.2.2.1
      have i3 := low_inv y 45 (by decide +kernel) e2.2.2.2
      subst i1 i2 i3
      simp [List.isPrefixOf] at h2
    | [x], e1 => have := congrArg List.length e1; simp [Asc.lower] at this
    | [], e1 => have := congrArg List.length e1; simp [Asc.lower] at this
  constructor
  · unfold nxL Tk.next markP
    rw [if_neg (by simp), if_neg (by rw [hi]; simp), if_neg hl, if_neg he, if_neg hb]
    split
    · exact congrArg (Prod.mk _) (Tk.drop_min _ _)
    · exact congrArg (Prod.mk _) (Tk.drop_min _ _)
  · unfold markP nxA
    split <;> rfl
theorem nx_dash (t : List UInt8) : nxL (60 :: 33 :: 45 :: 45 :: t) = (⟨4, [], [], false, t.take (Tk.fd [45, 45, 62] t)⟩, t.drop (Tk.fd [45, 45, 62] t + 3)) := by
  have hi : Tk.isTag (60 :: 33 :: 45 :: 45 :: t) = true := by simp [Tk.isTag]
  have hb : Tk.begins [60, 33, 45, 45] (60 :: 33 :: 45 :: 45 :: t) = true := by
    unfold Tk.begins
    rw [Bool.and_eq_true]
    refine ⟨by simp, ?_⟩
    show (Asc.lower [60, 33, 45, 45] == [60, 33, 45, 45]) = true
    decide +kernel
  unfold nxL Tk.next
  rw [if_neg (by simp), if_neg (by rw [hi]; simp), if_neg (by show ¬ Tk.letB 33 = true; decide +kernel), if_neg (by rintro ⟨e, _⟩; revert e; simp), if_pos hb]
  refine congrArg (Prod.mk _) ((Tk.drop_min _ _).trans ?_)
  show (60 :: 33 :: 45 :: 45 :: t).drop (Tk.fd [45, 45, 62] t + 7) = _
  rfl
theorem nx_plain (s : List UInt8) (h0 : s ≠ []) (h : Tk.isTag s = false) : nxL s = (Tk.textTok (Rf.dec false (s.take (Tk.upto s))), s.drop (Tk.upto s)) := by
  unfold nxL Tk.next
  rw [if_neg h0, if_pos h]
/-- What a reader's next answers, leaves, and has ahead. -/
def nextP (a s : List UInt8) : Tk.Tok × List UInt8 := if a = [] ∨ Tk.ends a s = 0 then nxL s else ownP a s
def nextA (a s : List UInt8) : List UInt8 := if a = [] ∨ Tk.ends a s = 0 then nxA (nxL s).1 else []
/-! ### all tokens, as a reader gives them -/
def restT (a s : List UInt8) : List Tk.Tok := if a = [] then Tk.all s else (if Tk.ends a s = 0 then [] else [(ownP a s).1]) ++ Tk.all (s.drop (Tk.ends a s))
theorem rest_nil (a : List UInt8) : restT a [] = [] := by
  unfold restT
  split
  · rfl
  · rfl
theorem rest_nx (s : List UInt8) (h : s ≠ []) : ((nxL s).1.kind = 0 → Tk.all s = []) ∧ ((nxL s).1.kind ≠ 0 → Tk.all s = (nxL s).1 :: restT (nxA (nxL s).1) (nxL s).2) := by
  have hn := Tk.next_len s h
  have hg := Tk.all_go s h
  constructor
  · intro hk
    have hk0 : (Tk.next s).1.kind = 0 := hk
    rw [hg]
    unfold Tk.stepT
    rw [if_neg (by omega), if_pos hk0, (hn.2.2.2 hk0), List.drop_length]
    rfl
  · intro hk
    have hk0 : (Tk.next s).1.kind ≠ 0 := hk
    by_cases hr : (Tk.next s).1.kind = 1 ∧ Tk.isRaw (Tk.next s).1.name = true
    · have hne : ¬ (Tk.next s).1.name = [] := by
        intro e
        have h2 := hr.2
        rw [e] at h2
        revert h2
        decide
      have e2 : nxA (nxL s).1 = (Tk.next s).1.name := if_pos hr
      rw [hg, e2]
      unfold Tk.stepT restT
      rw [if_pos hr, if_neg hne]
      rfl
    · have e2 : nxA (nxL s).1 = [] := if_neg hr
      rw [hg, e2]
      unfold Tk.stepT restT
      rw [if_neg hr, if_pos rfl, if_neg hk0]
      rfl
theorem rest_go (a s : List UInt8) (h : s ≠ []) : ((nextP a s).1.kind = 0 → restT a s = []) ∧ ((nextP a s).1.kind ≠ 0 → restT a s = (nextP a s).1 :: restT (nextA a s) (nextP a s).2) := by
  unfold nextP nextA
  by_cases hc : a = [] ∨ Tk.ends a s = 0
  · rw [if_pos hc, if_pos hc]
    have e : restT a s = Tk.all s := by
      unfold restT
      by_cases ha : a = []
      · rw [if_pos ha]
      · rw [if_neg ha, if_pos (hc.resolve_left ha), hc.resolve_left ha]
        rfl
    rw [e]
    exact rest_nx s h
  · rw [if_neg hc, if_neg hc]
    refine ⟨fun e => (by cases e), fun _ => ?_⟩
    unfold restT
    rw [if_neg (fun e => hc (.inl e)), if_neg (fun e => hc (.inr e)), if_pos rfl]
    rfl
/-- What is ahead is nothing, or one of four names. -/
def RawA (a : List UInt8) : Prop := a = [] ∨ Tk.isRaw a = true
theorem nextA_raw (a s : List UInt8) : RawA (nextA a s) := by
  unfold nextA nxA RawA
  split
  · split
    · rename_i h; exact .inr h.2
    · exact .inl rfl
  · exact .inl rfl
theorem raw_cases (a : List UInt8) (h : Tk.isRaw a = true) : a ∈ Tk.rawNames := by
  unfold Tk.isRaw at h
  unfold Tk.rawNames
  simp only [Bool.or_eq_true, beq_iff_eq] at h
  simp only [List.mem_cons, List.not_mem_nil, or_false]
  rcases h with ((h | h) | h) | h
  · exact .inl h
  · exact .inr (.inl h)
  · exact .inr (.inr (.inl h))
  · exact .inr (.inr (.inr h))
theorem raw_low (a : List UInt8) (h : Tk.isRaw a = true) : Asc.lower a = a ∧ a.length ≤ 8 ∧ a ≠ [] := by
  have h2 := raw_cases a h
  unfold Tk.rawNames at h2
  simp only [List.mem_cons, List.not_mem_nil, or_false] at h2
  rcases h2 with rfl | rfl | rfl | rfl <;> decide +kernel
theorem nextP_len (a s : List UInt8) (h : s ≠ []) : (nextP a s).2.length + 1 ≤ s.length := by
  unfold nextP
  split
  · have := Tk.next_len s h
    show (s.drop (Tk.next s).2).length + 1 ≤ _
    rw [List.length_drop]
    omega
  · rename_i hc
    have : Tk.ends a s ≠ 0 := fun e => hc (.inr e)
    have h2 := Tk.ends_le a s
    show (s.drop (Tk.ends a s)).length + 1 ≤ _
    rw [List.length_drop]
    omega
end Go.Proofs.YtiodaahncadodaaGreatDoor
/- The contracts of a reader's plain, mark, own, and of ownSize. -/
namespace Go.Proofs.YtiodaahncadodaaGreatDoor
open Go.RowKit
set_option maxHeartbeats 1000000 in
set_option maxRecDepth 100000 in
theorem plain_any {b : Nat} {s a : List UInt8} {w : World} (h : Tr b s a w) (hs : s ≠ []) (ht : Tk.isTag s = false) :
    Calls Tryz.prog 92 #[.pointer (some ⟨b, 0, none⟩)] w (TokPost b a w (Tk.textTok (Rf.dec false (s.take (Tk.upto s))), s.drop (Tk.upto s))) := by
  have hz := (zero_of_info zeroK).1
  have hbw := h.lt
  have hlen := h.len
  have hsz := str_size s
  have hpos : 1 ≤ s.length := by cases s <;> simp at hs ⊢
  have h0 := h.step ((Below.refl _ w).alloc (Nat.le_refl _) (.cells kCells0 56))
  have hk0 : Kept b w (w.alloc (.cells kCells0 56)) := Kept.of ((Below.refl _ w).alloc (Nat.le_refl _) _)
  have ha0 : KAt (w.alloc (.cells kCells0 56)) w.heap.size kCells0 := heap_new w _
  have HU : Hid (Tk.upto s = 1 + Tk.upto (s.drop 1)) := by
    show _ = _
    have hq : Tk.upto s = Tk.upto (s.drop 1) + 1 := upto_no s 0 hpos ht
    omega
  have HUl : Hid (Tk.upto s ≤ s.length) := Tk.upto_le s
  clear ht hs
  go_enter Tryz.func92, Tryz.ntmps92
  go_wp2
  generalize w.alloc (.cells kCells0 56) = W at *
  have c0 := h0.c0
  go_loopw [3] (fun i wr => wr = W ∧ ∃ k : Nat, 1 ≤ k ∧ k ≤ s.length ∧ i = .int .i64 k ∧ Hid (Tk.upto s = k + Tk.upto (s.drop k))) (fun i _ => s.length - (intOf i).toNat)
  case atStart => exact ⟨rfl, 1, Nat.le_refl _, hpos, rfl, HU⟩
  case round =>
    obtain ⟨hw, k, hk1, hk, rfl, HE⟩ := hrel
    replace hw := hw.symm
    subst hw
    have he : (str s).extract k s.length = str (s.drop k) := str_from s k
    by_cases hlt : k < s.length
    · have hB := begins_any (s.drop k) W
      cases hx : Tk.isTag (s.drop k)
      · rw [hx] at hB
        have HN : Hid (Tk.upto s = (k + 1) + Tk.upto (s.drop (k + 1))) := by
          show _ = _
          rw [HE.out, upto_no s k hlt hx]
          omega
        clear hx
        go_wp2_with (go_at_call 90; (try rw [he]); refine hB.mono ?_; rintro e w1 ⟨rfl, hw⟩; rw [hw]; clear hw)
        go_roundw
        case rel => exact ⟨by trivial, k + 1, by omega, by omega, by go_num, HN⟩
        case measure => simp [intOf]; omega
      · rw [hx] at hB
        have HN : Hid (Tk.upto s = k) := by
          show _ = _
          rw [HE.out, upto_yes _ hx]
          rfl
        clear hx HE
        have hT := take_any k h0 hk
        have HP : Hid ((Tk.textTok (Rf.dec false (s.take (Tk.upto s))), s.drop (Tk.upto s)) = (Tk.textTok (Rf.dec false (s.take k)), s.drop k)) := by show _ = _; rw [HN.out]
        clear HN
        have HDe := hideT (fun W (hW : Win W) => Decode_any (s.take k) false W (by rw [List.length_take]; omega) hW)
        generalize s.take k = x at hT HDe HP
        generalize Rf.dec false x = y at HDe HP
        go_wp2_with (first
          | (go_at_call 90; (try rw [he]); refine hB.mono ?_; rintro e w1 ⟨rfl, hw⟩; rw [hw]; clear hw)
          | (go_at_call 120; refine hT.mono ?_; rintro e w2 ⟨rfl, h2, k2⟩; have r2 := ha0.kept k2 (by omega); have hk2 := hk0.trans k2)
          | (go_at_call 121; refine (HDe.out _ h2.env.1).mono ?_; rintro e w3 ⟨rfl, hb3⟩; have h3 := h2.step hb3; have r3 := r2.step hb3; have hk3 := hk2.trans (Kept.of hb3))
          | (refine wpList_store_K _ _ rfl rfl w.heap.size _ rfl 3 ByteArray.empty (str y) false none 0 0 rfl rfl r3 ?_))
        refine ret_K rfl rfl rfl (setRow_K r3) ?_
        have k7 := kept_setRow w.heap.size w3 (kCells 3 [] (.slice none 0 0) false y)
        unfold TokPost
        rw [HP.out]
        exact ⟨none, 0, 0, rfl, OwnsPairs.nil _ _ _, h3.other k7 hbw (Nat.le_of_lt r3.lt), hk3.more k7 (Nat.le_refl _)⟩
    · have HN : Hid (Tk.upto s = k) := by
        show _ = _
        rw [HE.out, List.drop_eq_nil_of_le (by omega)]
        rfl
      clear HE
      have hT := take_any k h0 hk
      have HP : Hid ((Tk.textTok (Rf.dec false (s.take (Tk.upto s))), s.drop (Tk.upto s)) = (Tk.textTok (Rf.dec false (s.take k)), s.drop k)) := by show _ = _; rw [HN.out]
      clear HN
      have HDe := hideT (fun W (hW : Win W) => Decode_any (s.take k) false W (by rw [List.length_take]; omega) hW)
      generalize s.take k = x at hT HDe HP
      generalize Rf.dec false x = y at HDe HP
      go_wp2_with (first
        | (go_at_call 120; refine hT.mono ?_; rintro e w2 ⟨rfl, h2, k2⟩; have r2 := ha0.kept k2 (by omega); have hk2 := hk0.trans k2)
        | (go_at_call 121; refine (HDe.out _ h2.env.1).mono ?_; rintro e w3 ⟨rfl, hb3⟩; have h3 := h2.step hb3; have r3 := r2.step hb3; have hk3 := hk2.trans (Kept.of hb3))
        | (refine wpList_store_K _ _ rfl rfl w.heap.size _ rfl 3 ByteArray.empty (str y) false none 0 0 rfl rfl r3 ?_))
      refine ret_K rfl rfl rfl (setRow_K r3) ?_
      have k7 := kept_setRow w.heap.size w3 (kCells 3 [] (.slice none 0 0) false y)
      unfold TokPost
      rw [HP.out]
      exact ⟨none, 0, 0, rfl, OwnsPairs.nil _ _ _, h3.other k7 hbw (Nat.le_of_lt r3.lt), hk3.more k7 (Nat.le_refl _)⟩
set_option maxHeartbeats 1000000 in
set_option maxRecDepth 100000 in
theorem mark_any {b : Nat} {d : UInt8} {t a : List UInt8} {w : World} (h : Tr b (60 :: d :: t) a w) (hd : d ≠ 62) :
    Calls Tryz.prog 91 #[.pointer (some ⟨b, 0, none⟩)] w (TokPost b a w (markP (60 :: d :: t))) := by
  have hz := (zero_of_info zeroK).1
  have hbw := h.lt
  have hlen := h.len
  have h0 := h.step ((Below.refl _ w).alloc (Nat.le_refl _) (.cells kCells0 56))
  have hk0 : Kept b w (w.alloc (.cells kCells0 56)) := Kept.of ((Below.refl _ w).alloc (Nat.le_refl _) _)
  have ha0 : KAt (w.alloc (.cells kCells0 56)) w.heap.size kCells0 := heap_new w _
  have hfd := fd_skip t 60 d (by decide) hd
  have hdt := doctype_fd (60 :: d :: t)
  have hfl := fd_le [62] t
  have HM : Hid (markP (60 :: d :: t) = (if Tk.begins Tk.doctype (60 :: d :: t) = true then ⟨5, [], [], false, []⟩ else ⟨4, [], [], false, t.take (Tk.fd [62] t)⟩, t.drop (Tk.fd [62] t + 1))) := rfl
  have hPa : ∀ W, Tr b (60 :: d :: t) a W → Calls Tryz.prog 89 #[.pointer (some ⟨b, 0, none⟩), .string (str [62])] W fun e w' => e = .returned (.string (str (60 :: d :: t.take (Tk.fd [62] t)))) ∧ Tr b (t.drop (Tk.fd [62] t + 1)) a w' ∧ Kept b W w' := by
    intro W h
    have h1 := past_any [62] (by simp) h
    rw [hfd] at h1
    exact h1
  have HPa := hideT hPa
  clear hPa
  rw [hfd] at hdt
  rw [show (60 :: d :: t).take (Tk.fd [62] t + 2) = 60 :: d :: t.take (Tk.fd [62] t) from rfl] at hdt
  have hxl : (t.take (Tk.fd [62] t)).length ≤ t.length := by rw [List.length_take]; omega
  generalize t.drop (Tk.fd [62] t + 1) = r at HPa HM
  generalize t.take (Tk.fd [62] t) = x at HPa hdt HM hxl
  rw [← hdt] at HM
  rw [List.length_cons, List.length_cons] at hlen
  have HI := hideT (fun W => isDoctype_any (60 :: d :: x) W (by rw [List.length_cons, List.length_cons]; omega))
  have hsz : (str (60 :: d :: x)).size = x.length + 2 := str_size _
  have he : (str (60 :: d :: x)).extract 2 (x.length + 2) = str x := str_from (60 :: d :: x) 2
  clear hdt hfd hd
  cases hx : Tk.begins Tk.doctype (60 :: d :: x)
  · rw [hx] at HI HM
    clear hx
    go_enter Tryz.func91, Tryz.ntmps91
    go_wp2_with fail
    generalize w.alloc (.cells kCells0 56) = W at *
    go_wp2_with (first
      | (go_at_call 89; refine (HPa.out _ h0).mono ?_; rintro e w2 ⟨rfl, h2, k2⟩; have r2 := ha0.kept k2 (by omega); have hk2 := hk0.trans k2)
      | (go_at_call 128; refine (HI.out _).mono ?_; rintro e w3 ⟨rfl, hb3⟩; have h3 := h2.step hb3; have r3 := r2.step hb3; have hk3 := hk2.trans (Kept.of hb3))
      | (refine wpList_store_K _ _ rfl rfl w.heap.size _ rfl 4 ByteArray.empty (str x) false none 0 0 rfl rfl r3 ?_))
    refine ret_K rfl rfl rfl (setRow_K r3) ?_
    have k7 := kept_setRow w.heap.size w3 (kCells 4 [] (.slice none 0 0) false x)
    unfold TokPost
    rw [HM.out]
    exact ⟨none, 0, 0, rfl, OwnsPairs.nil _ _ _, h3.other k7 hbw (Nat.le_of_lt r3.lt), hk3.more k7 (Nat.le_refl _)⟩
  · rw [hx] at HI HM
    clear hx
    go_enter Tryz.func91, Tryz.ntmps91
    go_wp2_with fail
    generalize w.alloc (.cells kCells0 56) = W at *
    go_wp2_with (first
      | (go_at_call 89; refine (HPa.out _ h0).mono ?_; rintro e w2 ⟨rfl, h2, k2⟩; have r2 := ha0.kept k2 (by omega); have hk2 := hk0.trans k2)
      | (go_at_call 128; refine (HI.out _).mono ?_; rintro e w3 ⟨rfl, hb3⟩; have h3 := h2.step hb3; have r3 := r2.step hb3; have hk3 := hk2.trans (Kept.of hb3))
      | (refine wpList_store_K _ _ rfl rfl w.heap.size _ rfl 5 ByteArray.empty ByteArray.empty false none 0 0 rfl rfl r3 ?_))
    refine ret_K rfl rfl rfl (setRow_K r3) ?_
    have k7 := kept_setRow w.heap.size w3 (kCells 5 [] (.slice none 0 0) false [])
    unfold TokPost
    rw [HM.out]
    exact ⟨none, 0, 0, rfl, OwnsPairs.nil _ _ _, h3.other k7 hbw (Nat.le_of_lt r3.lt), hk3.more k7 (Nat.le_refl _)⟩
theorem lit_t (n q : List UInt8) (b : Bool) (h : (n == q) = b) : ((str n).toList == q) = b := by rw [str_list]; exact h
set_option maxHeartbeats 1000000 in
set_option maxRecDepth 100000 in
theorem own_any {b : Nat} {n s a : List UInt8} {w : World} (k : Nat) (h : Tr b s a w) (hk : k ≤ s.length) :
    Calls Tryz.prog 84 #[.pointer (some ⟨b, 0, none⟩), .string (str n), .int .i64 k] w (TokPost b a w (Tk.textTok (decT n (s.take k)), s.drop k)) := by
  have hz := (zero_of_info zeroK).1
  have hbw := h.lt
  have hlen := h.len
  have h0 := h.step ((Below.refl _ w).alloc (Nat.le_refl _) (.cells kCells0 56))
  have hk0 : Kept b w (w.alloc (.cells kCells0 56)) := Kept.of ((Below.refl _ w).alloc (Nat.le_refl _) _)
  have ha0 : KAt (w.alloc (.cells kCells0 56)) w.heap.size kCells0 := heap_new w _
  have HPa := hideT (fun W (h : Tr b s a W) => take_any k h hk)
  have HDe := hideT (fun W (hW : Win W) => Decode_any (s.take k) false W (by rw [List.length_take]; omega) hW)
  have HD : Hid (decT n (s.take k) = if (n == [116, 101, 120, 116, 97, 114, 101, 97] || n == [116, 105, 116, 108, 101]) = true then Rf.dec false (s.take k) else s.take k) := rfl
  generalize s.take k = x at *
  generalize decT n x = z at *
  generalize Rf.dec false x = y at *
  generalize s.drop k = r at *
  have run : ∀ (v : Bool), (n == [116, 101, 120, 116, 97, 114, 101, 97] || n == [116, 105, 116, 108, 101]) = v → v = true ∨ v = false := fun v _ => by cases v <;> simp
  cases h1 : (n == [116, 101, 120, 116, 97, 114, 101, 97])
  · have q1 := lit_t n _ _ h1
    cases h2 : (n == [116, 105, 116, 108, 101])
    · have q2 := lit_t n _ _ h2
      have HZ : Hid (z = x) := by show _ = _; rw [HD.out, h1, h2]; rfl
      clear HD h1 h2 run
      go_enter Tryz.func84, Tryz.ntmps84
      go_wp2_with fail
      generalize w.alloc (.cells kCells0 56) = W at *
      go_wp2_with (first
        | (go_at_call 120; refine (HPa.out _ h0).mono ?_; rintro e w2 ⟨rfl, h2, k2⟩; have r2 := ha0.kept k2 (by omega); have hk2 := hk0.trans k2; have hb3 : Below w2.heap.size w2 (w2.alloc (.cells #[.int .i64 3, .string ByteArray.empty, .slice none 0 0, .bool false, .string (str x)] 56)) := (Below.refl _ _).alloc (Nat.le_refl _) _; have t3 : KAt (w2.alloc (.cells #[.int .i64 3, .string ByteArray.empty, .slice none 0 0, .bool false, .string (str x)] 56)) w2.heap.size (kCells 3 [] (.slice none 0 0) false x) := heap_new w2 _; have h3 := h2.step hb3; have r3 := r2.step hb3; have hk3 := hk2.trans (Kept.of hb3))
        | (refine wpList_load_K _ rfl rfl w2.heap.size _ _ _ _ _ rfl t3 ?_)
        | (refine wpList_store_K _ _ rfl rfl w.heap.size _ rfl 3 ByteArray.empty (str x) false none 0 0 rfl rfl r3 ?_))
      refine ret_K rfl rfl rfl (setRow_K r3) ?_
      have k7 := kept_setRow w.heap.size (w2.alloc (.cells #[.int .i64 3, .string ByteArray.empty, .slice none 0 0, .bool false, .string (str x)] 56)) (kCells 3 [] (.slice none 0 0) false x)
      unfold TokPost
      rw [HZ.out]
      exact ⟨none, 0, 0, rfl, OwnsPairs.nil _ _ _, h3.other k7 hbw (Nat.le_of_lt r3.lt), hk3.more k7 (Nat.le_refl _)⟩
    · have q2 := lit_t n _ _ h2
      have HZ : Hid (z = y) := by show _ = _; rw [HD.out, h1, h2]; rfl
      clear HD h1 h2 run
      go_enter Tryz.func84, Tryz.ntmps84
      go_wp2_with fail
      generalize w.alloc (.cells kCells0 56) = W at *
      go_wp2_with (first
        | (go_at_call 120; refine (HPa.out _ h0).mono ?_; rintro e w2 ⟨rfl, h2, k2⟩; have r2 := ha0.kept k2 (by omega); have hk2 := hk0.trans k2; have hb3 : Below w2.heap.size w2 (w2.alloc (.cells #[.int .i64 3, .string ByteArray.empty, .slice none 0 0, .bool false, .string (str x)] 56)) := (Below.refl _ _).alloc (Nat.le_refl _) _; have t3 : KAt (w2.alloc (.cells #[.int .i64 3, .string ByteArray.empty, .slice none 0 0, .bool false, .string (str x)] 56)) w2.heap.size (kCells 3 [] (.slice none 0 0) false x) := heap_new w2 _; have h3 := h2.step hb3; have r3 := r2.step hb3; have hk3 := hk2.trans (Kept.of hb3); have c4 : (w2.alloc (.cells #[.int .i64 3, .string ByteArray.empty, .slice none 0 0, .bool false, .string (str x)] 56)).cell? ⟨w2.heap.size, 4, none⟩ = some (.string (str x)) := Lib.cell_of_heap t3 4))
      generalize (w2.alloc (.cells #[.int .i64 3, .string ByteArray.empty, .slice none 0 0, .bool false, .string (str x)] 56)) = W3 at *
      have hT2 := k2.size
      have hT3 := ha0.lt
      generalize w2.heap.size = T at *
      clear h0 hk0 ha0 h2 k2 r2 hk2 HPa hb3
      go_at_call 121
      refine (HDe.out _ h3.env.1).mono ?_
      rintro e w4 ⟨rfl, hb4⟩
      have h4 := h3.step hb4
      have r4 := r3.step hb4
      have t4 := t3.step hb4
      have hk4 := hk3.trans (Kept.of hb4)
      have cc4 : w4.cell? ⟨T, 4, none⟩ = some (.string (str x)) := Lib.cell_of_heap t4 4
      have ff4 : w4.frozen? ⟨T, 4, none⟩ = false := Lib.frozen_of_heap t4 4
      have k5 : Kept T w4 (w4.setCell ⟨T, 4, none⟩ (.string (str y))) := Kept.set T 4 w4 _
      have t5 : KAt (w4.setCell ⟨T, 4, none⟩ (.string (str y))) T (kCells 3 [] (.slice none 0 0) false y) := Go.Joins.block_setCell t4 _
      have r5 := r4.kept k5 (by omega)
      have h5 := h4.other k5 (by omega) (Nat.le_of_lt t4.lt)
      have hk5 := hk4.more k5 (by omega)
      clear h3 r3 t3 hk3 c4 hb4
      go_wp2_with (first
        | (refine wpList_load_K _ rfl rfl T _ _ _ _ _ rfl t5 ?_)
        | (refine wpList_store_K _ _ rfl rfl w.heap.size _ rfl 3 ByteArray.empty (str y) false none 0 0 rfl rfl r5 ?_))
      refine ret_K rfl rfl rfl (setRow_K r5) ?_
      have k7 := kept_setRow w.heap.size (w4.setCell ⟨T, 4, none⟩ (.string (str y))) (kCells 3 [] (.slice none 0 0) false y)
      unfold TokPost
      rw [HZ.out]
      exact ⟨none, 0, 0, rfl, OwnsPairs.nil _ _ _, h5.other k7 hbw (Nat.le_of_lt r5.lt), hk5.more k7 (Nat.le_refl _)⟩
  · have q1 := lit_t n _ _ h1
    have HZ : Hid (z = y) := by show _ = _; rw [HD.out, h1]; rfl
    clear HD h1 run
    go_enter Tryz.func84, Tryz.ntmps84
    go_wp2_with fail
    generalize w.alloc (.cells kCells0 56) = W at *
    go_wp2_with (first
      | (go_at_call 120; refine (HPa.out _ h0).mono ?_; rintro e w2 ⟨rfl, h2, k2⟩; have r2 := ha0.kept k2 (by omega); have hk2 := hk0.trans k2; have hb3 : Below w2.heap.size w2 (w2.alloc (.cells #[.int .i64 3, .string ByteArray.empty, .slice none 0 0, .bool false, .string (str x)] 56)) := (Below.refl _ _).alloc (Nat.le_refl _) _; have t3 : KAt (w2.alloc (.cells #[.int .i64 3, .string ByteArray.empty, .slice none 0 0, .bool false, .string (str x)] 56)) w2.heap.size (kCells 3 [] (.slice none 0 0) false x) := heap_new w2 _; have h3 := h2.step hb3; have r3 := r2.step hb3; have hk3 := hk2.trans (Kept.of hb3); have c4 : (w2.alloc (.cells #[.int .i64 3, .string ByteArray.empty, .slice none 0 0, .bool false, .string (str x)] 56)).cell? ⟨w2.heap.size, 4, none⟩ = some (.string (str x)) := Lib.cell_of_heap t3 4))
    generalize (w2.alloc (.cells #[.int .i64 3, .string ByteArray.empty, .slice none 0 0, .bool false, .string (str x)] 56)) = W3 at *
    have hT2 := k2.size
    have hT3 := ha0.lt
    generalize w2.heap.size = T at *
    clear h0 hk0 ha0 h2 k2 r2 hk2 HPa hb3
    go_at_call 121
    refine (HDe.out _ h3.env.1).mono ?_
    rintro e w4 ⟨rfl, hb4⟩
    have h4 := h3.step hb4
    have r4 := r3.step hb4
    have t4 := t3.step hb4
    have hk4 := hk3.trans (Kept.of hb4)
    have cc4 : w4.cell? ⟨T, 4, none⟩ = some (.string (str x)) := Lib.cell_of_heap t4 4
    have ff4 : w4.frozen? ⟨T, 4, none⟩ = false := Lib.frozen_of_heap t4 4
    have k5 : Kept T w4 (w4.setCell ⟨T, 4, none⟩ (.string (str y))) := Kept.set T 4 w4 _
    have t5 : KAt (w4.setCell ⟨T, 4, none⟩ (.string (str y))) T (kCells 3 [] (.slice none 0 0) false y) := Go.Joins.block_setCell t4 _
    have r5 := r4.kept k5 (by omega)
    have h5 := h4.other k5 (by omega) (Nat.le_of_lt t4.lt)
    have hk5 := hk4.more k5 (by omega)
    clear h3 r3 t3 hk3 c4 hb4
    go_wp2_with (first
      | (refine wpList_load_K _ rfl rfl T _ _ _ _ _ rfl t5 ?_)
      | (refine wpList_store_K _ _ rfl rfl w.heap.size _ rfl 3 ByteArray.empty (str y) false none 0 0 rfl rfl r5 ?_))
    refine ret_K rfl rfl rfl (setRow_K r5) ?_
    have k7 := kept_setRow w.heap.size (w4.setCell ⟨T, 4, none⟩ (.string (str y))) (kCells 3 [] (.slice none 0 0) false y)
    unfold TokPost
    rw [HZ.out]
    exact ⟨none, 0, 0, rfl, OwnsPairs.nil _ _ _, h5.other k7 hbw (Nat.le_of_lt r5.lt), hk5.more k7 (Nat.le_refl _)⟩
theorem fd_index2 (m : List UInt8) (hm : m ≠ []) : ∀ l : List UInt8, (Lib.index l m = -1 ∧ Tk.fd m l = l.length) ∨ (Lib.index l m = (Tk.fd m l : Int) ∧ ∃ r, l.drop (Tk.fd m l) = m ++ r)
  | [] => by
    left
    cases m with
    | nil => exact absurd rfl hm
    | cons a m => exact ⟨rfl, rfl⟩
  | c :: t => by
    rw [Lib.index, Tk.fd]
    cases hp : m.isPrefixOf (c :: t)
    · simp only [Bool.false_eq_true, if_false]
      rcases fd_index2 m hm t with ⟨h1, h2⟩ | ⟨h, r, hr⟩
      · left
        rw [h1]
        exact ⟨rfl, by rw [h2]; rfl⟩
      · right
        have hq : ((Tk.fd m t : Int) == -1) = false := by rw [beq_eq_false_iff_ne]; omega
        rw [h, hq]
        exact ⟨by simp, r, hr⟩
    · right
      obtain ⟨r, hr⟩ := List.isPrefixOf_iff_prefix.1 hp
      exact ⟨rfl, r, hr.symm⟩
/-- A round of ownSize. -/
theorem own_step (n s : List UInt8) (k : Nat) (hk : k ≤ s.length) (h : Tk.ends n s = k + Tk.ends n (s.drop k)) :
    (Lib.index (s.drop k) [60, 47] = -1 ∧ Tk.ends n s = s.length) ∨ ∃ j : Nat, Lib.index (s.drop k) [60, 47] = (j : Int) ∧ k + j + 2 ≤ s.length ∧ (endOf n (s.drop (k + j + 2)) = true → Tk.ends n s = k + j) ∧ (endOf n (s.drop (k + j + 2)) = false → Tk.ends n s = (k + j + 2) + Tk.ends n (s.drop (k + j + 2))) := by
  have hf := ends_fd n (s.drop k)
  rcases fd_index2 [60, 47] (by simp) (s.drop k) with ⟨h1, h2⟩ | ⟨h1, r, hr⟩
  · left
    refine ⟨h1, ?_⟩
    rw [h, hf, h2, List.drop_length, List.length_drop]
    show k + (s.length - k + 0) = s.length
    omega
  · right
    generalize Tk.fd [60, 47] (s.drop k) = j at *
    have hl := congrArg List.length hr
    rw [List.length_append, List.length_drop, List.length_drop] at hl
    have hl2 : ([60, 47] : List UInt8).length = 2 := rfl
    have hd : s.drop (k + j + 2) = r := by
      have : ((s.drop k).drop j).drop 2 = r := by rw [hr]; rfl
      rwa [List.drop_drop, List.drop_drop] at this
    refine ⟨j, h1, by omega, ?_, ?_⟩
    · intro he
      rw [hd] at he
      rw [h, hf, hr]
      show k + (j + Tk.ends n (60 :: 47 :: r)) = k + j
      rw [ends_here n r he]
      omega
    · intro he
      rw [hd] at he ⊢
      rw [h, hf, hr]
      show k + (j + Tk.ends n (60 :: 47 :: r)) = _
      rw [ends_on n r he]
      omega
set_option maxHeartbeats 1000000 in
theorem ownSize_any (n s : List UInt8) (w : World) (hE : EnvT w) (hl : Asc.lower n = n) (hn : n ≠ []) (hzn : n.length ≤ 1000000) (hz : s.length ≤ 1000000) :
    Calls Tryz.prog 83 #[.string (str n), .string (str s)] w fun e w' => e = .returned (.int .i64 (Tk.ends n s)) ∧ Below w.heap.size w w' := by
  have hne : ((str n).toList.isEmpty) = false := by
    rw [str_list]
    cases n with
    | nil => exact absurd rfl hn
    | cons c t => rfl
  have hsz := str_size s
  have HEn := hideT hE
  have HL := hideT hl
  clear hn hE hl
  go_enter Tryz.func83, Tryz.ntmps83
  go_wp2
  go_loopw [5] (fun i wr => ∃ k : Nat, k ≤ s.length ∧ i = .int .i64 k ∧ Hid (Tk.ends n s = k + Tk.ends n (s.drop k)) ∧ Below w.heap.size w wr) (fun i _ => s.length - (intOf i).toNat)
  case atStart => exact ⟨0, Nat.zero_le _, rfl, by show _ = _; rw [List.drop_zero]; omega, Below.refl _ _⟩
  case round =>
    obtain ⟨k, hk, rfl, HE, hB⟩ := hrel
    have he : (str s).extract k s.length = str (s.drop k) := str_from s k
    have hI := Index_l (s.drop k) [60, 47] wr (HEn.out.below hB) (by rw [List.length_drop]; omega)
    rcases own_step n s k hk HE.out with ⟨h1, h2⟩ | ⟨j, h1, hj, h2, h3⟩
    · rw [h1] at hI
      have HN := hideT h2
      clear h1 h2 HE
      go_wp2_with (go_at_call 118; (try rw [he]); refine hI.mono ?_; rintro e w1 ⟨rfl, hw⟩; rw [hw]; clear hw)
      go_ret
      exact ⟨by rw [HN.out]; rfl, hB⟩
    · rw [h1] at hI
      clear h1 HE
      have he2 : (str s).extract (k + j + 2) s.length = str (s.drop (k + j + 2)) := str_from s _
      have hEn := isEndOf_any n (s.drop (k + j + 2)) wr HL.out (by rw [List.length_drop]; omega) (by omega)
      cases hx : endOf n (s.drop (k + j + 2))
      · have HN := hideT (h3 hx)
        rw [hx] at hEn
        clear h2 h3 hx
        go_wp2_with (first
          | (go_at_call 118; (try rw [he]); refine hI.mono ?_; rintro e w1 ⟨rfl, hw⟩; rw [hw]; clear hw)
          | (go_at_call 119; (try rw [he2]); refine hEn.mono ?_; rintro e w2 ⟨rfl, hb2⟩))
        go_roundw
        case rel => exact ⟨k + j + 2, hj, by go_num, HN, bel hB hb2⟩
        case measure => simp [intOf]; omega
      · have HN := hideT (h2 hx)
        rw [hx] at hEn
        clear h2 h3 hx
        go_wp2_with (first
          | (go_at_call 118; (try rw [he]); refine hI.mono ?_; rintro e w1 ⟨rfl, hw⟩; rw [hw]; clear hw)
          | (go_at_call 119; (try rw [he2]); refine hEn.mono ?_; rintro e w2 ⟨rfl, hb2⟩))
        go_ret
        exact ⟨by rw [HN.out]; go_num, bel hB hb2⟩
theorem ownSize_none (s : List UInt8) (w : World) :
    Calls Tryz.prog 83 #[.string (str []), .string (str s)] w fun e w' => e = .returned (.int .i64 (0 : Nat)) ∧ w' = w := by
  have hne : ((str ([] : List UInt8)).toList.isEmpty) = true := by rw [str_list]; rfl
  go_enter Tryz.func83, Tryz.ntmps83
  go_wp2
  go_ret
  exact ⟨rfl, rfl⟩
end Go.Proofs.YtiodaahncadodaaGreatDoor
