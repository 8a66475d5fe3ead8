/- Texts decoded and encoded, as plain functions, and the promises that follow. -/
import Derived.Test.YtdllcnifkiebjaaDoorRfMath
import Derived.Test.YtdllcnifkiebjaaDoorUtfSpec
set_option linter.unusedVariables false
set_option linter.unusedSimpArgs false
namespace Rf
open Asc Go.Lib
theorem drop_lt (c : UInt8) (t : List UInt8) (k : Nat) : (t.drop k).length < (c :: t).length := by
  rw [List.length_drop, List.length_cons]; omega
def dec (a : Bool) (l : List UInt8) : List UInt8 :=
  match l with
  | [] => []
  | c :: t => if c = 38 then (if (next a t).2 = 0 then 38 :: dec a t else encodeRune (next a t).1 ++ dec a (t.drop (next a t).2)) else c :: dec a t
termination_by l.length
decreasing_by
  all_goals simp only [List.length_cons, List.length_drop]
  all_goals omega
theorem dec_nil (a : Bool) : dec a [] = [] := by rw [dec]
theorem dec_none (a : Bool) (t : List UInt8) (h : (next a t).2 = 0) : dec a (38 :: t) = 38 :: dec a t := by rw [dec, if_pos rfl, if_pos h]
theorem dec_some (a : Bool) (t : List UInt8) (h : (next a t).2 ≠ 0) : dec a (38 :: t) = encodeRune (next a t).1 ++ dec a (t.drop (next a t).2) := by rw [dec, if_pos rfl, if_neg h]
theorem dec_other (a : Bool) (c : UInt8) (t : List UInt8) (h : c ≠ 38) : dec a (c :: t) = c :: dec a t := by rw [dec, if_neg h]
theorem dec_part (a : Bool) : ∀ (p t : List UInt8), (38 : UInt8) ∉ p → dec a (p ++ t) = p ++ dec a t
  | [], t, _ => rfl
  | c :: p, t, h => by
    rw [List.cons_append, dec_other a c _ (fun e => h (by rw [e]; exact List.mem_cons_self ..)), dec_part a p t (fun e => h (List.mem_cons_of_mem _ e)), List.cons_append]
theorem dec_plain (a : Bool) (p : List UInt8) (h : (38 : UInt8) ∉ p) : dec a p = p := by
  have := dec_part a p [] h
  rw [List.append_nil, dec_nil, List.append_nil] at this
  exact this
/-- What stands for the sign that a text begins with, and how many bytes of it that are. -/
def one (a : Bool) (l : List UInt8) : List UInt8 × Nat :=
  if l.take 1 = [38] then ([38,97,109,112,59], 1)
  else if l.take 1 = [60] ∧ a = false then ([38,108,116,59], 1)
  else if l.take 1 = [62] ∧ a = false then ([38,103,116,59], 1)
  else if l.take 1 = [34] ∧ a = true then ([38,113,117,111,116,59], 1)
  else if l.take 1 = [13] then ([38,35,49,51,59], 1)
  else if [194,160].isPrefixOf l = true then ([38,110,98,115,112,59], 2)
  else (l.take 1, 1)
theorem one_pos (a : Bool) (l : List UInt8) : 1 ≤ (one a l).2 ∧ (one a l).2 ≤ 2 := by
  unfold one
  repeat' split
  all_goals simp
theorem one_len (a : Bool) (l : List UInt8) (h : l ≠ []) : (one a l).2 ≤ l.length := by
  have h1 : 1 ≤ l.length := by cases l <;> simp at h ⊢
  unfold one
  repeat' split
  all_goals try exact h1
  rename_i hp
  obtain ⟨r, rfl⟩ := List.isPrefixOf_iff_prefix.1 hp
  simp
theorem one_size (a : Bool) (l : List UInt8) : (one a l).1.length ≤ 6 := by
  unfold one
  repeat' split
  all_goals simp
  omega
def enc (a : Bool) (l : List UInt8) : List UInt8 :=
  if h : l = [] then [] else (one a l).1 ++ enc a (l.drop (one a l).2)
termination_by l.length
decreasing_by
  have := (one_pos a l).1
  have : 1 ≤ l.length := by cases l <;> simp at h ⊢
  rw [List.length_drop]
  omega
theorem enc_nil (a : Bool) : enc a [] = [] := by rw [enc]; simp
theorem enc_go (a : Bool) (l : List UInt8) (h : l ≠ []) : enc a l = (one a l).1 ++ enc a (l.drop (one a l).2) := by rw [enc]; simp [h]
theorem enc_len (a : Bool) (l : List UInt8) : (enc a l).length ≤ 6 * l.length := by
  generalize hn : l.length = n
  induction n using Nat.strongRecOn generalizing l with
  | ind n ih =>
    by_cases h : l = []
    · subst h; rw [enc_nil]; simp
    · have h1 := one_pos a l
      have h2 := one_len a l h
      have h3 := one_size a l
      have := ih (l.drop (one a l).2).length (by rw [List.length_drop]; omega) _ rfl
      rw [enc_go a l h, List.length_append]
      rw [List.length_drop] at this
      omega
/-! ### what is encoded is decoded (P11.3) -/
theorem next_name (b : Bool) (n r : List UInt8) (c : UInt8) (m : List UInt8) (hn : n = c :: m) (hc : c ≠ 35) (ha : n.all ofName = true) (hs : sgn n ≠ 0) :
    next b (n ++ 59 :: r) = (sgn n, n.length + 1) := by
  have h35 : [35].isPrefixOf (n ++ 59 :: r) = false := by
    subst hn
    have : (35 == c) = false := by
      rw [beq_eq_false_iff_ne]; exact fun e => hc e.symm
    simp [List.isPrefixOf, this]
  have hw : isWh (n ++ 59 :: r) = true := by
    unfold isWh
    rw [wn_pre n r ha, List.drop_left]
    simp [List.isPrefixOf, hs]
  unfold next
  rw [(not_hash _ h35).1]
  have hz : whSz (n ++ 59 :: r) = n.length + 1 := by unfold whSz; rw [hw, wn_pre n r ha]; rfl
  have hg : whSg (n ++ 59 :: r) = sgn n := by unfold whSg; rw [hw, wn_pre n r ha]; rfl
  rw [hz, hg]
  simp
theorem next_13 (b : Bool) (r : List UInt8) : next b (35 :: 49 :: 51 :: 59 :: r) = (13, 4) := by
  have hx : isHx (35 :: 49 :: 51 :: 59 :: r) = false := by simp [isHx, List.isPrefixOf]
  have hd : digs (35 :: 49 :: 51 :: 59 :: r) = [49, 51] := by
    unfold digs
    rw [hx]
    show (List.takeWhile digB (49 :: 51 :: 59 :: r)) = _
    rw [List.takeWhile_cons, show digB 49 = true from by decide, if_pos rfl, List.takeWhile_cons, show digB 51 = true from by decide, if_pos rfl, List.takeWhile_cons, show digB 59 = false from by decide]
    rfl
  have hi : isNo (35 :: 49 :: 51 :: 59 :: r) = true := by
    unfold isNo
    rw [hd]
    simp [List.isPrefixOf]
  unfold next numSz numSg
  rw [hi, hx, hd]
  have hv : val false [49, 51] = 13 := by decide +kernel
  rw [hv]
  have hs : numSign 13 = 13 := by decide +kernel
  rw [hs]
  simp [fr, semi, List.isPrefixOf]
theorem dec_name (b : Bool) (n r : List UInt8) (c : UInt8) (m : List UInt8) (hn : n = c :: m) (hc : c ≠ 35) (ha : n.all ofName = true) (hs : sgn n ≠ 0) :
    dec b (38 :: (n ++ 59 :: r)) = encodeRune (sgn n) ++ dec b r := by
  have e := next_name b n r c m hn hc ha hs
  rw [dec_some b _ (by rw [e]; simp), e]
  have : (n ++ 59 :: r).drop (n.length + 1) = r := by
    rw [List.drop_append]
    simp
  rw [this]
theorem one_back (a b : Bool) (l r : List UInt8) (h : l ≠ []) : dec b ((one a l).1 ++ r) = l.take (one a l).2 ++ dec b r := by
  have hl : ∀ x : UInt8, l.take 1 = [x] → l.take 1 = [x] := fun _ h => h
  unfold one
  split
  · rename_i e
    show dec b (38 :: ([97,109,112] ++ 59 :: r)) = l.take 1 ++ _
    rw [dec_name b _ r 97 _ rfl (by decide) (by decide) (by decide +kernel), e]
    rw [show encodeRune (sgn [97,109,112]) = [38] from by decide +kernel]
  split
  · rename_i e
    show dec b (38 :: ([108,116] ++ 59 :: r)) = l.take 1 ++ _
    rw [dec_name b _ r 108 _ rfl (by decide) (by decide) (by decide +kernel), e.1]
    rw [show encodeRune (sgn [108,116]) = [60] from by decide +kernel]
  split
  · rename_i e
    show dec b (38 :: ([103,116] ++ 59 :: r)) = l.take 1 ++ _
    rw [dec_name b _ r 103 _ rfl (by decide) (by decide) (by decide +kernel), e.1]
    rw [show encodeRune (sgn [103,116]) = [62] from by decide +kernel]
  split
  · rename_i e
    show dec b (38 :: ([113,117,111,116] ++ 59 :: r)) = l.take 1 ++ _
    rw [dec_name b _ r 113 _ rfl (by decide) (by decide) (by decide +kernel), e.1]
    rw [show encodeRune (sgn [113,117,111,116]) = [34] from by decide +kernel]
  split
  · rename_i e
    show dec b (38 :: 35 :: 49 :: 51 :: 59 :: r) = l.take 1 ++ _
    have e2 := next_13 b r
    rw [dec_some b _ (by rw [e2]; simp), e2, e]
    rw [show encodeRune (13 : Int) = [13] from by decide +kernel]
    rfl
  split
  · rename_i e
    obtain ⟨q, rfl⟩ := List.isPrefixOf_iff_prefix.1 e
    show dec b (38 :: ([110,98,115,112] ++ 59 :: r)) = _
    rw [dec_name b _ r 110 _ rfl (by decide) (by decide) (by decide +kernel)]
    rw [show encodeRune (sgn [110,98,115,112]) = [194,160] from by decide +kernel]
    rfl
  · rename_i e _ _ _ _ _
    cases l with
    | nil => exact absurd rfl h
    | cons c t =>
      refine dec_part b [c] r ?_
      intro hm
      rw [List.mem_singleton] at hm
      exact e (by rw [← hm]; rfl)
theorem back (a b : Bool) (l : List UInt8) : dec b (enc a l) = l := by
  generalize hn : l.length = n
  induction n using Nat.strongRecOn generalizing l with
  | ind n ih =>
    by_cases h : l = []
    · subst h; rw [enc_nil, dec_nil]
    · have h1 := one_pos a l
      have h2 := one_len a l h
      rw [enc_go a l h, one_back a b l _ h, ih (l.drop (one a l).2).length (by rw [List.length_drop]; omega) _ rfl, List.take_append_drop]
/-- No byte of what is encoded would end it. -/
def clean (a : Bool) (c : UInt8) : Bool := if a then c != 34 else c != 60 && c != 62
theorem one_clean (a : Bool) (l : List UInt8) (h : l ≠ []) : (one a l).1.all (clean a) = true := by
  obtain ⟨x, t, rfl⟩ : ∃ x t, l = x :: t := by
    cases l with
    | nil => exact absurd rfl h
    | cons x t => exact ⟨x, t, rfl⟩
  unfold one
  split
  · cases a <;> decide
  split
  · cases a <;> decide
  split
  · cases a <;> decide
  split
  · cases a <;> decide
  split
  · cases a <;> decide
  split
  · cases a <;> decide
  · rename_i _ h1 h2 h3 _ _
    simp only [List.take_succ_cons, List.take_zero, List.cons.injEq, and_true] at h1 h2 h3 ⊢
    cases a <;> simp [clean] at * <;> simp [*]
theorem enc_clean (a : Bool) (l : List UInt8) : (enc a l).all (clean a) = true := by
  generalize hn : l.length = n
  induction n using Nat.strongRecOn generalizing l with
  | ind n ih =>
    by_cases h : l = []
    · subst h; rw [enc_nil]; rfl
    · have h1 := one_pos a l
      have h2 := one_len a l h
      rw [enc_go a l h, List.all_append, one_clean a l h, ih (l.drop (one a l).2).length (by rw [List.length_drop]; omega) _ rfl]
      rfl
/-! ### what is decoded of a text is a text, no longer than it (P11.4) -/
def low (c : UInt8) : Bool := decide (c.toNat < 128)
theorem low_dig {c : UInt8} (h : digB c = true) : low c = true := by
  have h' : 48 ≤ bt c ∧ bt c ≤ 57 := by simpa [digB, isDig] using h
  unfold low bt at *
  rw [decide_eq_true_eq]; omega
theorem low_hex {c : UInt8} (h : hexB c = true) : low c = true := by
  have h' : ((48 ≤ bt c ∧ bt c ≤ 57) ∨ (97 ≤ bt c ∧ bt c ≤ 102)) ∨ (65 ≤ bt c ∧ bt c ≤ 70) := by simpa [hexB, hexOk] using h
  unfold low bt at *
  rw [decide_eq_true_eq]; omega
theorem low_name {c : UInt8} (h : ofName c = true) : low c = true := by
  have h' : ((65 ≤ bt c ∧ bt c ≤ 90) ∨ (97 ≤ bt c ∧ bt c ≤ 122)) ∨ (48 ≤ bt c ∧ bt c ≤ 57) := by simpa [ofName, letZ, isDig] using h
  unfold low bt at *
  rw [decide_eq_true_eq]; omega
theorem low_ok (b : Bool) {c : UInt8} (h : dOk b c = true) : low c = true := by
  cases b
  · exact low_dig h
  · exact low_hex h
theorem all_mono {p q : UInt8 → Bool} (h : ∀ c, p c = true → q c = true) (l : List UInt8) (hl : l.all p = true) : l.all q = true := by
  rw [List.all_eq_true] at *
  exact fun c hc => h c (hl c hc)
theorem text_low (c : UInt8) (t : List UInt8) (h : low c = true) : Utf.isText (c :: t) = Utf.isText t := by
  have h' : c.toNat < 128 := by simpa [low] using h
  have hp : Utf.part (c :: t) = (1, true) := by unfold Utf.part; rw [Utf.at0, Utf.part_1 _ _ _ _ _ h']
  rw [Utf.isText_go _ (by simp), hp]
  rfl
theorem text_lows : ∀ (p t : List UInt8), p.all low = true → Utf.isText (p ++ t) = Utf.isText t
  | [], t, _ => rfl
  | c :: p, t, h => by
    rw [List.all_cons, Bool.and_eq_true] at h
    rw [List.cons_append, text_low c _ h.1, text_lows p t h.2]
theorem semi_form (l : List UInt8) : ∃ p, p.length = semi l ∧ p.all low = true ∧ l = p ++ l.drop (semi l) := by
  unfold semi
  split
  · rename_i h
    obtain ⟨r, rfl⟩ := List.isPrefixOf_iff_prefix.1 h
    exact ⟨[59], rfl, rfl, rfl⟩
  · exact ⟨[], rfl, rfl, rfl⟩
theorem takeWhile_form (p : UInt8 → Bool) (t : List UInt8) : t = t.takeWhile p ++ t.drop (t.takeWhile p).length := by
  have e := List.takeWhile_append_dropWhile (p := p) (l := t)
  have : t.drop (t.takeWhile p).length = t.dropWhile p := by
    have h2 := congrArg (List.drop (t.takeWhile p).length) e
    rw [List.drop_left] at h2
    exact h2.symm
  rw [this]
  exact e.symm
theorem hash_form (t : List UInt8) (h : [35].isPrefixOf t = true) : ∃ p, p.length = fr (isHx t) ∧ p.all low = true ∧ t = p ++ t.drop (fr (isHx t)) := by
  cases hx : isHx t
  · obtain ⟨r, rfl⟩ := List.isPrefixOf_iff_prefix.1 h
    exact ⟨[35], rfl, rfl, rfl⟩
  · unfold isHx at hx
    rw [Bool.or_eq_true] at hx
    rcases hx with hx | hx
    · obtain ⟨r, rfl⟩ := List.isPrefixOf_iff_prefix.1 hx
      exact ⟨[35, 120], rfl, rfl, rfl⟩
    · obtain ⟨r, rfl⟩ := List.isPrefixOf_iff_prefix.1 hx
      exact ⟨[35, 88], rfl, rfl, rfl⟩
/-- A reference's bytes are of the first 128. -/
def Lows (t : List UInt8) (n : Nat) : Prop := ∃ p, p.length = n ∧ p.all low = true ∧ t = p ++ t.drop n
theorem num_low (t : List UInt8) : Lows t (numSz t) := by
  unfold numSz
  split
  · rename_i h
    unfold isNo at h
    rw [Bool.and_eq_true] at h
    obtain ⟨p, hp1, hp2, hp3⟩ := hash_form t h.1
    have hd := takeWhile_form (dOk (isHx t)) (t.drop (fr (isHx t)))
    have ha := all_mono (fun c h => low_ok (isHx t) h) _ (all_takeWhile (dOk (isHx t)) (t.drop (fr (isHx t))))
    obtain ⟨q, hq1, hq2, hq3⟩ := semi_form (t.drop (fr (isHx t) + (digs t).length))
    refine ⟨p ++ (digs t ++ q), by rw [List.length_append, List.length_append, hp1, hq1]; omega, by rw [List.all_append, List.all_append, hp2, hq2]; unfold digs; rw [ha]; rfl, ?_⟩
    rw [List.append_assoc, List.append_assoc]
    rw [← List.drop_drop (i := semi _)]
    rw [← hq3]
    rw [← List.drop_drop]
    unfold digs
    rw [← hd]
    exact hp3
  · exact ⟨[], rfl, rfl, rfl⟩
theorem wh_low (t : List UInt8) : Lows t (whSz t) := by
  unfold whSz
  split
  · rename_i h
    unfold isWh at h
    rw [Bool.and_eq_true] at h
    obtain ⟨r, hr⟩ := List.isPrefixOf_iff_prefix.1 h.1
    refine ⟨wn t ++ [59], by rw [List.length_append]; rfl, ?_, ?_⟩
    · rw [List.all_append]
      unfold wn
      rw [all_mono (fun c h => low_name h) _ (all_takeWhile ofName t)]
      rfl
    · rw [← List.drop_drop, ← hr, List.append_assoc]
      exact ((congrArg (wn t ++ ·) hr).trans (wn_drop t)).symm
  · exact ⟨[], rfl, rfl, rfl⟩
set_option maxRecDepth 100000 in
theorem short_low : ∀ p ∈ shortT, p.1.all low = true := by decide +kernel
theorem sh_low (a : Bool) (t : List UInt8) : Lows t (sh a t).2 := by
  have key : ∀ l : List Nat, Lows t (shL a t l).2 := by
    intro l
    induction l with
    | nil => exact ⟨[], rfl, rfl, rfl⟩
    | cons k r ih =>
      rw [shL]
      split
      · rename_i h
        unfold shP
        split
        · exact ⟨[], rfl, rfl, rfl⟩
        · obtain ⟨p, hp, e⟩ := List.mem_map.1 (look_mem _ _ h.2)
          refine ⟨t.take k, by rw [List.length_take]; show min k t.length = k; omega, ?_, (List.take_append_drop k t).symm⟩
          rw [← e]
          exact short_low p hp
      · exact ih
  exact key _
theorem next_low (a : Bool) (t : List UInt8) : Lows t (next a t).2 := by
  unfold next
  split
  · exact num_low t
  split
  · exact wh_low t
  · exact sh_low a t
theorem next_len (a : Bool) (t : List UInt8) : (next a t).2 ≤ t.length := by
  obtain ⟨p, h1, _, h3⟩ := next_low a t
  have := congrArg List.length h3
  rw [List.length_append, h1] at this
  omega
theorem not_amp (l : List UInt8) (h : l ≠ []) (hw : (Utf.part l).2 = true) (h0 : l.head? ≠ some 38) : (38 : UInt8) ∉ l.take (Utf.part l).1 := by
  intro hm
  obtain ⟨j, hj, he⟩ := List.getElem_of_mem hm
  rw [List.length_take] at hj
  rw [List.getElem_take] at he
  have ha : Utf.at' l j = 38 := by
    unfold Utf.at'
    rw [List.getD_eq_getElem?_getD, List.getElem?_eq_getElem (by omega), he]
    rfl
  by_cases hz : j = 0
  · subst hz
    apply h0
    rw [List.head?_eq_getElem?, List.getElem?_eq_getElem (by omega), he]
  · have := Utf.part_cont l j (by omega) (by omega)
    omega
theorem dec_text (a : Bool) (l : List UInt8) : Utf.isText l = true → Utf.isText (dec a l) = true := by
  generalize hn : l.length = n
  induction n using Nat.strongRecOn generalizing l with
  | ind n ih =>
    intro ht
    by_cases h : l = []
    · subst h; rw [dec_nil]; exact ht
    by_cases h0 : l.head? = some 38
    · obtain ⟨t, rfl⟩ : ∃ t, l = 38 :: t := by
        cases l with
        | nil => exact absurd rfl h
        | cons c t => simp at h0; exact ⟨t, by rw [h0]⟩
      rw [text_low 38 t (by decide)] at ht
      by_cases hz : (next a t).2 = 0
      · rw [dec_none a t hz, text_low 38 _ (by decide)]
        exact ih t.length (by rw [← hn]; simp) t rfl ht
      · rw [dec_some a t hz, Utf.isText_put]
        obtain ⟨p, h1, h2, h3⟩ := next_low a t
        refine ih _ ?_ _ rfl ?_
        · rw [List.length_drop, ← hn, List.length_cons]; omega
        · rw [h3, text_lows p _ h2] at ht
          exact ht
    · rw [Utf.isText_go l h, Bool.and_eq_true] at ht
      have hp := Utf.part_pos l
      have hl := Utf.part_len l h
      have hr := (Utf.whole l h ht.1)
      have e : dec a l = l.take (Utf.part l).1 ++ dec a (l.drop (Utf.part l).1) := by
        rw [← dec_part a _ _ (not_amp l h ht.1 h0), List.take_append_drop]
      rw [e, ← hr.2, Utf.isText_put]
      exact ih _ (by rw [List.length_drop]; omega) _ rfl ht.2
theorem enc3 (c : Int) (h : c ≤ 65535) : (encodeRune c).length ≤ 3 := by
  unfold encodeRune encodeRuneZ
  repeat' split
  all_goals simp
  all_goals omega
theorem look_bd (M : Int) (hM : 0 ≤ M) : ∀ (T : Tab) (s : List UInt8), (∀ p ∈ T, p.2 ≤ M) → look T s ≤ M
  | [], s, _ => hM
  | p :: r, s, h => by
    rw [look]
    split
    · exact h p (List.mem_cons_self ..)
    · exact look_bd M hM r s fun q hq => h q (List.mem_cons_of_mem _ hq)
set_option maxRecDepth 100000 in
theorem names_bd : ∀ p ∈ names, p.2 ≤ 65535 := by decide +kernel
set_option maxRecDepth 100000 in
theorem short_bd : ∀ p ∈ shortT, p.2 ≤ 65535 := by decide +kernel
set_option maxRecDepth 100000 in
theorem names_ne : ∀ s ∈ names.map Prod.fst, 1 ≤ s.length := by decide +kernel
theorem next_short (a : Bool) (t : List UInt8) (h : (next a t).2 ≠ 0) : (encodeRune (next a t).1).length ≤ (next a t).2 + 1 := by
  unfold next at *
  split at h
  · rename_i hz
    rw [if_pos hz]
    show (encodeRune (numSg t)).length ≤ numSz t + 1
    have hi : isNo t = true := by
      cases e : isNo t
      · unfold numSz at hz; rw [e] at hz; exact absurd rfl hz
      · rfl
    have hd : digs t ≠ [] := by
      unfold isNo at hi
      rw [Bool.and_eq_true] at hi
      intro e
      rw [e] at hi
      simp at hi
    have hf : 1 ≤ fr (isHx t) := by unfold fr; split <;> omega
    unfold numSz numSg
    rw [hi]
    simp only [if_true]
    by_cases h1 : 2 ≤ (digs t).length
    · have := (Utf.enc_len (numSign (val (isHx t) (digs t)))).1
      omega
    · obtain ⟨c, hc⟩ : ∃ c, digs t = [c] := by
        match digs t, hd, h1 with
        | [c], _, _ => exact ⟨c, rfl⟩
        | _ :: _ :: _, _, h1 => simp at h1
      have hv := val_fold t hd
      have hb := hexV_bd (bt c)
      have hval : val (isHx t) (digs t) ≤ 127 ∧ 0 ≤ val (isHx t) (digs t) := by
        rw [hv, hc]
        simp only [foldCap]
        omega
      have := enc3 _ (numSign_low _ hval.2 hval.1)
      rw [hc] at *
      simp only [List.length_singleton]
      omega
  split at h
  · rename_i hz hy
    rw [if_neg hz, if_pos hy]
    show (encodeRune (whSg t)).length ≤ whSz t + 1
    have hi : isWh t = true := by
      cases e : isWh t
      · unfold whSz at hy; rw [e] at hy; exact absurd rfl hy
      · rfl
    have h3 := enc3 (sgn (wn t)) (look_bd 65535 (by omega) _ _ names_bd)
    have hl : 1 ≤ (wn t).length := by
      unfold isWh at hi
      rw [Bool.and_eq_true] at hi
      exact names_ne _ (look_mem names (wn t) (by have h' := hi.2; unfold sgn at h'; simpa using h'))
    unfold whSz whSg
    rw [hi]
    simp only [if_true]
    omega
  · rename_i hz hy
    rw [if_neg hz, if_neg hy]
    have key : ∀ l : List Nat, (∀ k ∈ l, 2 ≤ k) → (shL a t l).2 ≠ 0 → (encodeRune (shL a t l).1).length ≤ (shL a t l).2 + 1 := by
      intro l
      induction l with
      | nil => intro _ h; exact absurd rfl h
      | cons k r ih =>
        intro hk
        rw [shL]
        split
        · unfold shP
          split
          · intro h; exact absurd rfl h
          · intro _
            have h3 := enc3 (look shortT (t.take k)) (look_bd 65535 (by omega) _ _ short_bd)
            have := hk k (List.mem_cons_self ..)
            show (encodeRune (look shortT (t.take k))).length ≤ k + 1
            omega
        · exact ih fun q hq => hk q (List.mem_cons_of_mem _ hq)
    exact key _ (by decide) h
theorem dec_len (a : Bool) (l : List UInt8) : (dec a l).length ≤ l.length := by
  generalize hn : l.length = n
  induction n using Nat.strongRecOn generalizing l with
  | ind n ih =>
    cases l with
    | nil => rw [dec_nil]; simp
    | cons c t =>
      rw [List.length_cons] at hn
      by_cases hc : c = 38
      · subst hc
        by_cases hz : (next a t).2 = 0
        · rw [dec_none a t hz, List.length_cons]
          have := ih t.length (by omega) t rfl
          omega
        · rw [dec_some a t hz, List.length_append]
          have h1 := next_short a t hz
          have h2 := next_len a t
          have := ih _ (by rw [List.length_drop]; omega) (t.drop (next a t).2) rfl
          rw [List.length_drop] at this
          omega
      · rw [dec_other a c t hc, List.length_cons]
        have := ih t.length (by omega) t rfl
        omega
/-! ### a number's reference -/
theorem takeWhile_all (p : UInt8 → Bool) (D r : List UInt8) (h : D.all p = true) (hr : ∀ c ∈ r.head?, p c = false) : (D ++ r).takeWhile p = D := by
  induction D with
  | nil =>
    cases r with
    | nil => rfl
    | cons c r =>
      rw [List.nil_append, List.takeWhile_cons, hr c (by simp)]
      rfl
  | cons d D ih =>
    rw [List.all_cons, Bool.and_eq_true] at h
    rw [List.cons_append, List.takeWhile_cons, h.1, if_pos rfl, ih h.2]
theorem dec_num (a b : Bool) (x D r : List UInt8) (hx : ∀ y, D.head? = y → isHx (x ++ (D ++ r)) = b) (hl : x.length = fr b) (h35 : [35].isPrefixOf x = true) (hn : D ≠ []) (hD : D.all (dOk b) = true) (hr : ∀ c ∈ r.head?, dOk b c = false) :
    dec a (38 :: (x ++ (D ++ r))) = encodeRune (numSign (foldCap (baseOf b) 0 D)) ++ dec a (r.drop (semi r)) := by
  have hb := hx _ rfl
  have hd : digs (x ++ (D ++ r)) = D := by
    unfold digs
    rw [hb, ← hl, List.drop_left, takeWhile_all _ D r hD hr]
  have hp : [35].isPrefixOf (x ++ (D ++ r)) = true := by
    obtain ⟨q, rfl⟩ := List.isPrefixOf_iff_prefix.1 h35
    rw [List.isPrefixOf_iff_prefix]
    exact ⟨q ++ (D ++ r), by simp⟩
  have hi : isNo (x ++ (D ++ r)) = true := by
    unfold isNo
    rw [hp, hd]
    cases D with
    | nil => exact absurd rfl hn
    | cons d D => rfl
  have hrest : (x ++ (D ++ r)).drop (fr b + D.length) = r := by
    rw [← hl, ← List.drop_drop, List.drop_left, List.drop_left]
  have hs : numSz (x ++ (D ++ r)) = fr b + D.length + semi r := by
    unfold numSz
    rw [hi, hb, hd, hrest]
    rfl
  have hg : numSg (x ++ (D ++ r)) = numSign (foldCap (baseOf b) 0 D) := by
    unfold numSg
    rw [hi]
    show numSign (val (isHx _) (digs _)) = _
    rw [val_fold _ (by rw [hd]; exact hn), hb, hd]
  have hf : 1 ≤ fr b := by unfold fr; split <;> omega
  have e : next a (x ++ (D ++ r)) = (numSign (foldCap (baseOf b) 0 D), fr b + D.length + semi r) := by
    unfold next
    rw [hs, hg, if_pos (by omega)]
  rw [dec_some a _ (by rw [e]; show fr b + D.length + semi r ≠ 0; omega), e]
  show _ ++ dec a ((x ++ (D ++ r)).drop (fr b + D.length + semi r)) = _
  rw [← List.drop_drop, hrest]
end Rf
